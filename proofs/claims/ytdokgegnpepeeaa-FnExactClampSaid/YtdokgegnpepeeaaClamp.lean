/- Clamp and its model return the number clamped, and turn nothing. -/
import Derived.Test.YtdokgegnpepeeaaProg
import Derived.Test.YtdokgegnpepeeaaDraw
namespace Go.Proofs.Ytdokgegnpepeeaa
open Go Go.RowKit
def clampI (n low high : Int) : Int := if high < low ∨ n < low then low else if high < n then high else n
theorem impl_Clamp (n lo hi : Int) (w : World) :
    Calls Try.prog 10 #[.int .i64 n, .int .i64 lo, .int .i64 hi] w fun e w' => e = .returned (.int .i64 (clampI n lo hi)) ∧ w = w' := by
  go_enter Try.func10, Try.ntmps10
  go_wp2
  all_goals go_ret
  all_goals exact ⟨ret_int (by unfold clampI; split at * <;> split <;> (try split) <;> omega), rfl⟩
theorem spec_Clamp (n lo hi : Int) (w : World) :
    Calls Try.prog 20 #[.int .i64 n, .int .i64 lo, .int .i64 hi] w fun e w' => e = .returned (.int .i64 (clampI n lo hi)) ∧ w = w' := by
  by_cases h1 : hi < lo
  · go_enter Try.func20, Try.ntmps20
    go_wp2
    go_ret
    exact ⟨by simp [clampI, h1], rfl⟩
  · by_cases h2 : n < lo
    · go_enter Try.func20, Try.ntmps20
      go_wp2
      go_ret
      exact ⟨by simp [clampI, h2], rfl⟩
    · go_enter Try.func20, Try.ntmps20
      go_wp2
      all_goals go_ret
      · exact ⟨ret_int (by unfold clampI; rw [if_neg (by omega), if_pos (by omega)]), rfl⟩
      · exact ⟨ret_int (by unfold clampI; rw [if_neg (by omega), if_neg (by omega)]), rfl⟩
theorem FnExactClamp_walk (n lo hi : Int) (w : World) (_h0 : (Lit.int .i64 n).wf = true) (_h1 : (Lit.int .i64 lo).wf = true) (_h2 : (Lit.int .i64 hi).wf = true) :
    Calls Try.prog 7 #[.int .i64 n, .int .i64 lo, .int .i64 hi] w fun e w' => e = .returned (.bool true) ∧ Below w.heap.size w w' := by
  go_enter Try.func7, Try.ntmps7
  go_wp2_with fail
  refine (spec_Clamp n lo hi w).mono ?_
  rintro e w1 ⟨rfl, rfl⟩
  go_wp2_with fail
  refine (impl_Clamp n lo hi w).mono ?_
  rintro e w1 ⟨rfl, rfl⟩
  go_wp2_with fail
  go_ret
  exact ⟨rfl, Below.refl _ _⟩
theorem DrawClamp_any (A : Option Addr) (n c : Nat) (w : World) (hb : Bytes w.heap.size w A n) (hn : n ≤ 1048576) :
    Calls Try.prog 9 #[.slice A n c] w (Drawn3 w) := by
  go_enter Try.func9, Try.ntmps9
  go_wp2_with fail
  refine (l01New_any A n c w hb hn).mono ?_
  rintro e w1 ⟨g, rfl, hc1, hb1⟩
  go_wp2_with fail
  refine (l01Once_any _ g 4 w1 hc1).mono ?_
  rintro e w2 ⟨x, rfl, hc2, hg2⟩
  have hb2 := below_cur hb1 hc1 hg2
  cases x
  · go_wp2_with fail
    refine (l01Below_any _ g 40 w2 hc2).mono ?_
    rintro e w3 ⟨x, rfl, ⟨_, hx⟩, hc3, hg3⟩
    obtain ⟨hx0, hx1⟩ := hx (by omega)
    have hb3 := below_cur hb2 hc2 hg3
    go_wp2_with fail
    refine (l01Below_any _ g 80 w3 hc3).mono ?_
    rintro e w4 ⟨y, rfl, ⟨_, hy⟩, hc4, hg4⟩
    obtain ⟨hy0, hy1⟩ := hy (by omega)
    have hb4 := below_cur hb3 hc3 hg4
    go_wp2_with fail
    refine (l01Below_any _ g 30 w4 hc4).mono ?_
    rintro e w5 ⟨z, rfl, ⟨_, hz⟩, hc5, hg5⟩
    obtain ⟨hz0, hz1⟩ := hz (by omega)
    have hb5 := below_cur hb4 hc4 hg5
    go_wp2_with fail
    go_ret3
    exact ⟨_, _, _, rfl, hb5⟩
  · go_wp2_with fail
    refine (l01Number_any _ g w2 hc2).mono ?_
    rintro e w3 ⟨x, rfl, _, hc3, hg3⟩
    have hb3 := below_cur hb2 hc2 hg3
    go_wp2_with fail
    refine (l01Number_any _ g w3 hc3).mono ?_
    rintro e w4 ⟨y, rfl, _, hc4, hg4⟩
    have hb4 := below_cur hb3 hc3 hg4
    go_wp2_with fail
    refine (l01Number_any _ g w4 hc4).mono ?_
    rintro e w5 ⟨z, rfl, _, hc5, hg5⟩
    have hb5 := below_cur hb4 hc4 hg5
    go_wp2_with fail
    go_ret3
    exact ⟨_, _, _, rfl, hb5⟩

theorem impl_Clamp_is (n lo hi r : Int) (hr : clampI n lo hi = r) (w : World) :
    Calls Try.prog 10 #[.int .i64 n, .int .i64 lo, .int .i64 hi] w fun e w' => e = .returned (.int .i64 r) ∧ w = w' := by
  subst hr; exact impl_Clamp n lo hi w

theorem clampI_facts (x lo hi : Int) (h : lo ≤ hi) : ∃ r, clampI x lo hi = r ∧ lo ≤ r ∧ r ≤ hi ∧ clampI r lo hi = r ∧ (x < lo ∨ hi < x ∨ r = x) := by
  by_cases h1 : x < lo
  · exact ⟨lo, by simp [clampI, h1], by omega, by omega, by unfold clampI; rw [if_neg (by omega), if_neg (by omega)], by omega⟩
  · by_cases h2 : hi < x
    · exact ⟨hi, by unfold clampI; rw [if_neg (by omega), if_pos h2], by omega, by omega, by unfold clampI; rw [if_neg (by omega), if_neg (by omega)], by omega⟩
    · have e : clampI x lo hi = x := by unfold clampI; rw [if_neg (by omega), if_neg (by omega)]
      exact ⟨x, e, by omega, by omega, e, by omega⟩

theorem FnClamped_walk (A : Option Addr) (n c : Nat) (w : World) (hb : Bytes w.heap.size w A n) (hm : n ≤ 9223372036854775807) :
    Calls Try.prog 3 #[.slice A n c] w fun e w' => e = .returned (.bool true) ∧ Below w.heap.size w w' := by
  by_cases hn : 1048576 < n
  · go_enter Try.func3, Try.ntmps3
    go_wp2_with fail
    refine (big_any A n c w true (by simpa using hn) hm).mono ?_
    rintro e w1 ⟨rfl, rfl⟩
    go_wp2_with fail
    go_ret
    exact ⟨rfl, Below.refl _ _⟩
  · have hn' : n ≤ 1048576 := by omega
    go_enter Try.func3, Try.ntmps3
    go_wp2_with fail
    refine (big_any A n c w false (by simpa using hn') hm).mono ?_
    rintro e w1 ⟨rfl, rfl⟩
    go_wp2_with fail
    refine (DrawClamp_any A n c w hb hn').mono ?_
    rintro e w1 ⟨x, lo, hi, rfl, hb1⟩
    clear hn hn' hm
    by_cases h1 : hi < lo
    · go_wp2_with fail
      refine (impl_Clamp_is x lo hi lo (by simp [clampI, h1]) w1).mono ?_
      rintro e w2 ⟨rfl, rfl⟩
      go_wp2_with fail
      refine (impl_Clamp_is 7 3 5 5 (by decide) w1).mono ?_
      rintro e w2 ⟨rfl, rfl⟩
      go_wp2_with fail
      go_ret
      exact ⟨rfl, hb1⟩
    · have h1' : lo ≤ hi := by omega
      obtain ⟨r, hr, hr0, hr1, hr2, hr3⟩ := clampI_facts x lo hi h1'
      have Hr := Lib.hid hr
      have Hr2 := Lib.hid hr2
      clear hr hr2
      go_wp2_with fail
      refine (impl_Clamp_is x lo hi r Hr.out w1).mono ?_
      rintro e w2 ⟨rfl, rfl⟩
      rcases hr3 with h | h | rfl
      all_goals
        go_wp2_with fail
        refine (impl_Clamp_is _ lo hi _ Hr2.out w1).mono ?_
        rintro e w2 ⟨rfl, rfl⟩
        go_wp2_with fail
        refine (impl_Clamp_is 7 3 5 5 (by decide) w1).mono ?_
        rintro e w2 ⟨rfl, rfl⟩
        go_wp2_with fail
        go_ret
        exact ⟨rfl, hb1⟩
end Go.Proofs.Ytdokgegnpepeeaa
