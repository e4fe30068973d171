/- Two lists of numbers that are the same (laws.sameInts). No condition. -/
import Derived.Test.YtfpcjgolcbjnjaaProg
import Derived.Test.YtfpcjgolcbjnjaaB1
import Derived.Deep.QuietTactic
namespace Go.Proofs.Ytfpcjgolcbjnjaa
open Go Go.RowKit
/-- Comparing only reads. -/
theorem sameInts_quiet (n c1 c2 : Nat) (A B : Option Addr) (xs : List Int) (w : World) (ha : Ints w A xs) (hb : Ints w B xs) (hl : xs.length = n) (hn : n ≤ 1000000000000) :
    Calls Try.prog 18 #[.slice A n c1, .slice B n c2] w fun e w' => e = .returned (.bool true) ∧ ∃ q, w' = w.drewN q := by
  have Hl := Lib.hid hl
  clear hl
  go_enter Try.func18, Try.ntmps18
  go_wp2_with fail
  go_loopw [5] (fun i wr => ∃ j : Nat, j ≤ n ∧ i = .int .i64 j ∧ ∃ q, wr = w.drewN q) (fun i _ => n - (intOf i).toNat)
  case atStart => exact ⟨0, Nat.zero_le _, rfl, 0, rfl⟩
  case round =>
    obtain ⟨j, hj, rfl, q, hq⟩ := hrel
    have hbr : Below w.heap.size w wr := by rw [hq]; exact below_drewN (Below.refl _ _) q
    by_cases hlt : j < n
    · obtain ⟨b, o, rfl, hbl, hc⟩ := (ha.bound.below hbr).at_ (j := j) (by rw [Hl.out]; exact hlt)
      obtain ⟨b', o', rfl, hbl', hc'⟩ := (hb.bound.below hbr).at_ (j := j) (by rw [Hl.out]; exact hlt)
      generalize hx : xs.getD j 0 = x at hc hc'
      have hj0 : (0 : Int) ≤ j := by omega
      have hj1 : (j : Int) < n := by omega
      have Hq := Lib.hid hq
      clear ha hb hx hbr hq
      go_wp2_with fail
      go_quiet (fail)
      go_wp2_with fail
      go_roundw
      case rel => exact ⟨j + 1, by omega, by go_num, q + nq, by rw [Hq.out, World.drewN_drewN]⟩
      case measure => simp [intOf]; omega
    · obtain rfl : j = n := by omega
      have Hq := Lib.hid hq
      clear hbr hq
      go_wp2_with fail
      go_ret
      exact ⟨rfl, q, Hq.out⟩
theorem sameInts_same (n c1 c2 : Nat) (A B : Option Addr) (xs : List Int) (w : World) (ha : Ints w A xs) (hb : Ints w B xs) (hl : xs.length = n) (hn : n ≤ 1000000000000) :
    Calls Try.prog 18 #[.slice A n c1, .slice B n c2] w fun e w' => e = .returned (.bool true) ∧ Below w.heap.size w w' :=
  (sameInts_quiet n c1 c2 A B xs w ha hb hl hn).mono fun _ _ ⟨he, q, hq⟩ => ⟨he, by rw [hq]; exact below_drewN (Below.refl _ _) q⟩
end Go.Proofs.Ytfpcjgolcbjnjaa
