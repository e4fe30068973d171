/- The program's evaluation of a polynomial: the whole. -/
import Derived.Test.YtcjgoonkdjaccaaProg
import Derived.Test.YtcjgoonkdjaccaaPolyV
namespace Go.Proofs.Ytcjgoonkdjaccaa
open Go Go.RowKit
theorem polyI_yes {p x : Int} {xs : List Int} (ha : ∀ y ∈ xs, isEl p y) (hx : isEl p x) : polyI p xs x = atI p xs x := if_pos ⟨⟨hx.1, ha⟩, hx⟩
theorem polyI_no1 {p x : Int} {xs : List Int} (ha : ¬ ∀ y ∈ xs, isEl p y) : polyI p xs x = -1 := if_neg (fun e => ha e.1.2)
theorem polyI_no2 {p x : Int} {xs : List Int} (hx : ¬ isEl p x) : polyI p xs x = -1 := if_neg (fun e => hx e.2)
set_option maxRecDepth 100000 in
set_option maxHeartbeats 1000000 in
theorem impl_PolyAt (p : Int) (A : Option Addr) (n c : Nat) (xs : List Int) (x r : Int) (hr : polyI p xs x = r) (w : World) (hxs : Ints w A xs) (hl : xs.length = n) (hn : n ≤ 2000000) :
    Calls Try.prog 18 #[.int .i64 p, .slice A n c, .int .i64 x] w fun e w' => e = .returned (.int .i64 r) ∧ Below w.heap.size w w' := by
  subst hr
  have Hl := Lib.hid hl
  clear hl
  by_cases hx : isEl p x
  · by_cases ha : ∀ y ∈ xs, isEl p y
    · rw [polyI_yes ha hx]
      have Ha := Lib.hid ha
      clear ha
      go_enter Try.func18, Try.ntmps18
      go_wp2_with fail
      refine (impl_newElement_yes p x hx w).mono ?_
      rintro e w1 ⟨rfl, k1⟩
      have k2 : Below w.heap.size w (w1.alloc (.cells #[.int .i64 p, .int .i64 x] 59)) := k1.alloc k1.size _
      have b7 := heap_alloc_new w1 (.cells #[.int .i64 p, .int .i64 x] 59)
      have i2 := hxs.below k2
      clear k1 hxs
      go_wp2_with fail
      refine (impl_newElements_yes p A n c xs _ i2 Hl.out hn Ha.out).mono ?_
      rintro e w3 ⟨A3, m3, c3, rfl, hl3, he3, hb⟩
      replace b7 := heap_below b7 hb
      have k3 := k2.trans (hb.mono k2.size)
      have m3b : m3 ≤ 2000000 := by rw [← hl3, Hl.out]; exact hn
      have Hl3 := Lib.hid hl3
      obtain ⟨u0, u1, _, _⟩ := box2 b7
      clear hb k2 i2 b7 hl3
      go_wp2_with fail
      refine (impl_evaluate p A3 m3 c3 xs x w3 he3 Hl3.out m3b Ha.out hx).mono ?_
      rintro e w4 ⟨rfl, hb⟩
      have k4 := k3.trans (hb.mono k3.size)
      have hfl : ∀ (y : Int) (w : World), (Instr.field 59 (.agg #[.int .i64 p, .int .i64 y]) 1).run Try.prog w = .ok (.int .i64 y) w := fun _ _ => by kernel_rfl
      go_wp2_with fail
      go_ret
      exact ⟨rfl, k4⟩
    · rw [polyI_no1 ha]
      have Ha := Lib.hid ha
      clear ha
      go_enter Try.func18, Try.ntmps18
      go_wp2_with fail
      refine (impl_newElement_yes p x hx w).mono ?_
      rintro e w1 ⟨rfl, k1⟩
      have k2 : Below w.heap.size w (w1.alloc (.cells #[.int .i64 p, .int .i64 x] 59)) := k1.alloc k1.size _
      have i2 := hxs.below k2
      clear k1 hxs
      go_wp2_with fail
      refine (impl_newElements_no p A n c xs _ i2 Hl.out hn Ha.out).mono ?_
      rintro e w3 ⟨rfl, hb⟩
      have k3 := k2.trans (hb.mono k2.size)
      clear hb k2 i2
      go_wp2_with fail
      go_ret
      exact ⟨rfl, k3⟩
  · rw [polyI_no2 hx]
    by_cases ha : ∀ y ∈ xs, isEl p y
    · have Ha := Lib.hid ha
      clear ha
      go_enter Try.func18, Try.ntmps18
      go_wp2_with fail
      refine (impl_newElement_no p x hx w).mono ?_
      rintro e w1 ⟨rfl, k1⟩
      have k2 : Below w.heap.size w (w1.alloc (.cells #[.int .i64 0, .int .i64 0] 59)) := k1.alloc k1.size _
      have i2 := hxs.below k2
      clear k1 hxs
      go_wp2_with fail
      refine (impl_newElements_yes p A n c xs _ i2 Hl.out hn Ha.out).mono ?_
      rintro e w3 ⟨A3, m3, c3, rfl, hl3, he3, hb⟩
      have k3 := k2.trans (hb.mono k2.size)
      clear hb k2 i2 he3 hl3
      go_wp2_with fail
      go_ret
      exact ⟨rfl, k3⟩
    · have Ha := Lib.hid ha
      clear ha
      go_enter Try.func18, Try.ntmps18
      go_wp2_with fail
      refine (impl_newElement_no p x hx w).mono ?_
      rintro e w1 ⟨rfl, k1⟩
      have k2 : Below w.heap.size w (w1.alloc (.cells #[.int .i64 0, .int .i64 0] 59)) := k1.alloc k1.size _
      have i2 := hxs.below k2
      clear k1 hxs
      go_wp2_with fail
      refine (impl_newElements_no p A n c xs _ i2 Hl.out hn Ha.out).mono ?_
      rintro e w3 ⟨rfl, hb⟩
      have k3 := k2.trans (hb.mono k2.size)
      clear hb k2 i2
      go_wp2_with fail
      go_ret
      exact ⟨rfl, k3⟩
end Go.Proofs.Ytcjgoonkdjaccaa
