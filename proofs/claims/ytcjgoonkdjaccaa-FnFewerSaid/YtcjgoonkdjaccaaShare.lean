/- Additive shares: dealing and opening; the program and the model return the same shares in new memory. -/
import Derived.Test.YtcjgoonkdjaccaaProg
import Derived.Test.YtcjgoonkdjaccaaShareM
import Derived.Test.YtcjgoonkdjaccaaFieldC
import Derived.Test.YtcjgoonkdjaccaaTapeP
import Derived.Test.YtcjgoonkdjaccaaTapeL
import Derived.Test.YtcjgoonkdjaccaaSeg
import Derived.Test.YtcjgoonkdjaccaaBlk
import Derived.Handy
namespace Go.Proofs.Ytcjgoonkdjaccaa
open Go Go.RowKit
theorem impl_partiesOk_is (n : Int) (r : Bool) (hr : decide (1 ≤ n ∧ n ≤ 5) = r) (w : World) :
    Calls Try.prog 35 #[.int .i64 n] w fun e w' => e = .returned (.bool r) ∧ w = w' := by
  subst hr
  go_enter Try.func35, Try.ntmps35
  go_wp2
  all_goals go_ret
  all_goals exact ⟨ret_bool (by simp; omega), rfl⟩
theorem impl_canDeal (s a : Int) (r : Bool) (hr : decide (isTape s a ∧ a ≤ 900000) = r) (w : World) :
    Calls Try.prog 36 #[.agg #[.int .i64 s, .int .i64 a]] w fun e w' => e = .returned (.bool r) ∧ Below w.heap.size w w' := by
  subst hr
  have hx := heap_alloc_new w (.cells #[.int .i64 s, .int .i64 a] 27)
  have k0 : Below w.heap.size w (w.alloc (.cells #[.int .i64 s, .int .i64 a] 27)) := (Below.refl _ _).alloc (Nat.le_refl _) _
  go_enter Try.func36, Try.ntmps36
  go_wp2_with fail
  refine (impl_TapeOk s a _).mono ?_
  rintro e w1 ⟨rfl, hb1⟩
  have hc := box2_below hx hb1
  have hb2 := k0.trans (hb1.mono k0.size)
  obtain ⟨c0, c1, _, _⟩ := box2 hc
  by_cases hs : isTape s a
  · rw [decide_eq_true hs]
    go_wp2
    all_goals go_ret
    all_goals exact ⟨ret_bool (by simp [hs]), hb2⟩
  · rw [decide_eq_false hs]
    go_wp2_with fail
    go_ret
    exact ⟨ret_bool (by simp [hs]), hb2⟩
theorem impl_allElements (p : Int) (A : Option Addr) (n c : Nat) (xs : List Int) (r : Bool) (hr : decide (allEl p xs) = r) (w : World) (hx : Ints w A xs) (hl : xs.length = n) (hn : n ≤ 1000000000) :
    Calls Try.prog 40 #[.int .i64 p, .slice A n c] w fun e w' => e = .returned (.bool r) ∧ Below w.heap.size w w' := by
  by_cases h : allEl p xs
  · have e0 := fsum_el h
    have e1 : fsumI p xs ≠ -1 := by have := e0.2.1; omega
    rw [decide_eq_true h] at hr
    subst hr
    clear e0 h
    go_enter Try.func40, Try.ntmps40
    go_wp2_with fail
    refine (impl_FSum p A n c xs w hx hl hn).mono ?_
    rintro e w1 ⟨rfl, hb1⟩
    generalize fsumI p xs = z at *
    have e2 : (z == -1) = false := beq_eq_false_iff_ne.2 e1
    go_wp2_with fail
    go_ret
    exact ⟨ret_bool (by simpa using e1), hb1⟩
  · rw [decide_eq_false h] at hr
    subst hr
    have e0 := fsumI_no h
    go_enter Try.func40, Try.ntmps40
    go_wp2_with fail
    refine (impl_FSum p A n c xs w hx hl hn).mono ?_
    rintro e w1 ⟨rfl, hb1⟩
    rw [e0]
    go_wp2_with fail
    go_ret
    exact ⟨rfl, hb1⟩
theorem spec_l06Tape (s a : Int) (r : Bool) (hr : decide (isTape s a ∧ a ≤ 900000) = r) (w : World) :
    Calls Try.prog 57 #[.agg #[.int .i64 s, .int .i64 a]] w fun e w' => e = .returned (.bool r) ∧ Below w.heap.size w w' := by
  subst hr
  have hx := heap_alloc_new w (.cells #[.int .i64 s, .int .i64 a] 27)
  have k0 : Below w.heap.size w (w.alloc (.cells #[.int .i64 s, .int .i64 a] 27)) := (Below.refl _ _).alloc (Nat.le_refl _) _
  go_enter Try.func57, Try.ntmps57
  go_wp2_with fail
  refine (spec_TapeOk s a _).mono ?_
  rintro e w1 ⟨rfl, hb1⟩
  have hc := box2_below hx hb1
  have hb2 := k0.trans (hb1.mono k0.size)
  obtain ⟨c0, c1, _, _⟩ := box2 hc
  by_cases hs : isTape s a
  · rw [decide_eq_true hs]
    go_wp2
    all_goals go_ret
    all_goals exact ⟨ret_bool (by simp [hs]), hb2⟩
  · rw [decide_eq_false hs]
    go_wp2_with fail
    go_ret
    exact ⟨ret_bool (by simp [hs]), hb2⟩
theorem Listed.of {w w' : World} {s b c : Int} {zs ys : List Int} {e : Ending} (h : Listed w s b zs e w') (h1 : b = c) (h2 : zs = ys) : Listed w s c ys e w' := by subst h1 h2; exact h
theorem vals_snoc {w : World} {base n : Nat} {e : TypeId} {v : Value} {zs : List Int} {r : Int} (h : w.ownsRow base e 1 v n (intVals zs ++ (#[Value.int .i64 r] : Array Value).toList)) : w.ownsRow base e 1 v n (intVals (zs ++ [r])) := by
  simpa [intVals] using h
end Go.Proofs.Ytcjgoonkdjaccaa
