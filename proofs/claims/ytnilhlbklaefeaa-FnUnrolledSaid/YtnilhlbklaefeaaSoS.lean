/- The laws' comparison of two lists of statements. No condition. -/
import Derived.Test.YtnilhlbklaefeaaProg
import Derived.Test.YtnilhlbklaefeaaStmtA
import Derived.BigQuiet
namespace Go.Proofs.Ytnilhlbklaefeaa
open Go Go.RowKit
set_option maxRecDepth 100000 in
set_option maxHeartbeats 1000000 in
theorem sameStmts_same (n c1 c2 : Nat) (A B : Option Addr) (ss : List St) (w : World) (ha : Ints w A (flat ss)) (hb : Ints w B (flat ss)) (hl : ss.length = n) (hn : n ≤ 1000000000000) :
    Calls Try.prog 14 #[.slice A n c1, .slice B n c2] w fun e w' => e = .returned (.bool true) ∧ ∃ q, w' = w.drewN q := by
  go_enter Try.func14, Try.ntmps14
  go_wp2_with fail
  go_loopw [5] (fun i wr => ∃ k : Nat, k ≤ n ∧ i = .int .i64 k ∧ ∃ q, wr = w.drewN q) (fun i _ => n - (intOf i).toNat)
  case atStart => exact ⟨0, Nat.zero_le _, rfl, 0, rfl⟩
  case round =>
    obtain ⟨k, hk, rfl, q, rfl⟩ := hrel
    by_cases hlt : k < n
    · rcases hs : ss.getD k s0 with ⟨op, d, a, b, c, m⟩
      have hlow : Below w.heap.size w (w.drewN q) := below_drewN (Below.refl _ _) q
      obtain ⟨g, o, rfl, -, q0, q1, q2, q3, q4, q5⟩ := cell6 (ha.bound.below hlow) (by omega) hs
      obtain ⟨g', o', rfl, -, r0, r1, r2, r3, r4, r5⟩ := cell6 (hb.bound.below hlow) (by omega) hs
      have k0 : (0 : Int) ≤ k := by omega
      have k1 : (k : Int) < n := by omega
      clear ha hb hs hlow
      have hwr := Lib.hid (rfl : w.drewN q = w.drewN q)
      generalize hww : w.drewN q = wr at q0 q1 q2 q3 q4 q5 r0 r1 r2 r3 r4 r5 ⊢
      replace hwr := Lib.hid hww
      clear hww
      go_wp2_with fail
      go_quiet (fail)
      go_wp2_with fail
      go_roundw
      case rel => exact ⟨k + 1, by omega, by go_num, _, by rw [← hwr.out]; exact (World.drewN_drewN ..)⟩
      case measure => simp [intOf]; omega
    · obtain rfl : k = n := by omega
      clear ha hb
      go_wp2_with fail
      go_ret
      exact ⟨rfl, _, rfl⟩
end Go.Proofs.Ytnilhlbklaefeaa
