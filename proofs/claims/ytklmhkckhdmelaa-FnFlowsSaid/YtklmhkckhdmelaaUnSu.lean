/- UnrolledSize and Unroll of the model. No condition. -/
import Derived.Test.YtklmhkckhdmelaaProg
import Derived.Test.YtklmhkckhdmelaaPgS
import Derived.Test.YtklmhkckhdmelaaUnSz
import Derived.Test.YtklmhkckhdmelaaUnSb
namespace Go.Proofs.Ytklmhkckhdmelaa
open Go Go.RowKit
/-- A list of statements of the call's own, and a bool. -/
def Post_S_bool (ss : List St) (r : Bool) (w : World) (e : Ending) (w' : World) : Prop :=
  ∃ (A : Option Addr) (m c : Nat), e = .returned (.tuple #[.slice A m c, .bool r]) ∧ ss.length = m ∧ OwnSt w.heap.size w'.heap.size w' (.slice A m c) m ss ∧ Below w.heap.size w w'
set_option maxRecDepth 100000 in
set_option maxHeartbeats 1000000 in
theorem spec_UnrolledSize (A : Option Addr) (n cp : Nat) (ss : List St) (w : World) (hr : Ints w A (flat ss)) (hl : ss.length = n) (hn : n ≤ 2000000) :
    Calls Try.prog 59 #[.slice A n cp] w fun e w' => e = .returned (.int .i64 (sizeI ss)) ∧ Below w.heap.size w w' := by
  have c1 := spec_ProgramOk A n cp ss w hr hl hn
  unfold sizeI
  by_cases hp : progI ss
  case neg =>
    rw [decide_eq_false hp] at c1
    rw [if_neg hp]
    clear hp hr
    go_enter Try.func59, Try.ntmps59
    go_wp2_with fail
    refine c1.mono ?_
    rintro e w1 ⟨rfl, hb⟩
    go_wp2_with fail
    go_ret
    exact ⟨rfl, hb⟩
  rw [decide_eq_true hp] at c1
  rw [if_pos hp]
  have c2 := fun w' h => l10Size_prog ss A n cp w' h hl hp
  clear hp
  go_enter Try.func59, Try.ntmps59
  go_wp2_with fail
  refine c1.mono ?_
  rintro e w1 ⟨rfl, hb1⟩
  have hr1 := (hr.bound.below hb1).ints hb1.size
  clear c1
  go_wp2_with fail
  refine (c2 _ hr1).mono ?_
  rintro e w2 ⟨rfl, rfl⟩
  go_wp2_with fail
  go_ret
  exact ⟨rfl, hb1⟩
set_option maxRecDepth 100000 in
set_option maxHeartbeats 1000000 in
theorem spec_Unroll (A : Option Addr) (n cp : Nat) (ss : List St) (w : World) (hr : Ints w A (flat ss)) (hl : ss.length = n) (hn : n ≤ 2000000) :
    Calls Try.prog 48 #[.slice A n cp] w (Post_S_bool (unrV ss) (decide (unrI ss)) w) := by
  have c1 := spec_UnrolledSize A n cp ss w hr hl hn
  have hempty : ∀ w1 : World, Below w.heap.size w w1 → OwnSt w.heap.size (w1.alloc (.cells #[] 43)).heap.size (w1.alloc (.cells #[] 43)) (.slice (some ⟨w1.heap.size, 0, none⟩) 0 0) 0 [] := fun w1 h1 =>
    OwnSt.of_own (World.ownsRow_made (e := 43) (size := 6) (base := w.heap.size) w1 #[] 0 h1.size (by unfold maxLen; omega) rfl)
  unfold sizeI at c1
  unfold unrV
  by_cases hp : progI ss
  case neg =>
    rw [if_neg hp] at c1
    have hu : ¬ unrI ss := fun h => hp h.1
    rw [if_neg hu, decide_eq_false hu]
    clear hp hr hu
    go_enter Try.func48, Try.ntmps48
    go_wp2_with fail
    refine c1.mono ?_
    rintro e w1 ⟨rfl, hb⟩
    go_wp2_with fail
    go_returns
    exact ⟨_, _, _, rfl, rfl, hempty _ hb, low_alloc hb _⟩
  rw [if_pos hp] at c1
  by_cases h120 : (unrollL ss).length ≤ 120
  case neg =>
    have hu : ¬ unrI ss := fun h => h120 h.2
    rw [if_neg hu, decide_eq_false hu]
    generalize (unrollL ss).length = z at *
    have z0 : (120 : Int) < z := by omega
    have z1 : ¬ (z : Int) < 0 := by omega
    clear hp hr hu
    go_enter Try.func48, Try.ntmps48
    go_wp2_with fail
    refine c1.mono ?_
    rintro e w1 ⟨rfl, hb⟩
    go_wp2_with fail
    go_returns
    exact ⟨_, _, _, rfl, rfl, hempty _ hb, low_alloc hb _⟩
  have hu : unrI ss := ⟨hp, h120⟩
  rw [if_pos hu, decide_eq_true hu]
  have c2 := fun w' h => l10Block_prog ss A n cp w' h hl hp
  generalize hz : unrollL ss = zs at *
  have z0 : ¬ (120 : Int) < zs.length := by omega
  have z1 : ¬ (zs.length : Int) < 0 := by omega
  clear hp hu hz hempty
  go_enter Try.func48, Try.ntmps48
  go_wp2_with fail
  refine c1.mono ?_
  rintro e w1 ⟨rfl, hb1⟩
  have hr1 := (hr.bound.below hb1).ints hb1.size
  clear c1
  go_wp2_with fail
  refine (c2 _ hr1).mono ?_
  rintro e w2 ⟨B, m, c, rfl, hm, hown, hb2⟩
  go_wp2_with fail
  go_returns
  exact ⟨_, _, _, rfl, hm.out, OwnSt.of_own (own_mono hown hb1.size), hb1.trans (hb2.mono hb1.size)⟩
end Go.Proofs.Ytklmhkckhdmelaa
