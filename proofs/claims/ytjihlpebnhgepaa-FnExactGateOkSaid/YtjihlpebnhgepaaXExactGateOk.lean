/- The law FnExactGateOk: the walk. -/
import Derived.Test.YtjihlpebnhgepaaProg
import Derived.Test.YtjihlpebnhgepaaB1
import Derived.Test.YtjihlpebnhgepaaCirX
import Derived.Test.YtjihlpebnhgepaaC1
namespace Go.Proofs.Ytjihlpebnhgepaa
open Go Go.RowKit
set_option maxRecDepth 100000 in
set_option maxHeartbeats 2000000 in
theorem FnExactGateOk_walk (a0_0 : Int) (a0_1 : Int) (a0_2 : Int) (a1 : Int) (w : World) (_h0_0 : (Lit.int .i64 a0_0).wf = true) (_h0_1 : (Lit.int .i64 a0_1).wf = true) (_h0_2 : (Lit.int .i64 a0_2).wf = true) (_h1 : (Lit.int .i64 a1).wf = true) :
    Calls Try.prog 5 #[.agg #[.int .i64 a0_0, .int .i64 a0_1, .int .i64 a0_2], .int .i64 a1] w fun e w' => e = .returned (.bool true) ∧ Below w.heap.size w w' := by
  have low : Below w.heap.size w (w.alloc (.cells #[.int .i64 a0_0, .int .i64 a0_1, .int .i64 a0_2] 39)) := (low_alloc (Below.refl _ _) _)
  have b0 := new_at w (.cells #[.int .i64 a0_0, .int .i64 a0_1, .int .i64 a0_2] 39) (w.heap.size) (by simp)
  go_enter Try.func5, Try.ntmps5
  have c1 := (blk (i := 0) b0 rfl).1
  have c2 := (blk (i := 1) b0 rfl).1
  have c3 := (blk (i := 2) b0 rfl).1
  go_wp2_with fail
  generalize hw0 : (w.alloc (.cells #[.int .i64 a0_0, .int .i64 a0_1, .int .i64 a0_2] 39)) = v0 at *
  clear hw0
  have q0 := low.size
  have q00 := heap_lt b0
  obtain ⟨R0, hR0⟩ : ∃ r, decide (gateOk a0_0 a0_1 a0_2 a1) = r := ⟨_, rfl⟩
  have E := Lib.hid (show ∀ w e w', Post_bool (decide (gateOk a0_0 a0_1 a0_2 a1)) w e w' → Post_bool R0 w e w' from by subst hR0; intro _ _ _ h; exact h)
  clear hR0
  clear c1 c2 c3
  have c4 := (blk (i := 0) b0 rfl).1
  have c5 := (blk (i := 1) b0 rfl).1
  have c6 := (blk (i := 2) b0 rfl).1
  go_wp2_with fail
  refine (toGate_any a0_0 a0_1 a0_2 v0).mono ?_
  rintro e w7 ⟨rfl, hb⟩
  replace b0 := heap_below b0 hb
  replace low := low.trans (hb.mono low.size)
  have q8 := hb.size
  clear hb
  clear c4 c5 c6
  have c10 := (blk (i := 0) b0 rfl).1
  have c11 := (blk (i := 1) b0 rfl).1
  have c12 := (blk (i := 2) b0 rfl).1
  go_wp2_with fail
  refine (ex_spec_GateOk a0_0 a0_1 a0_2 a1 w7 ).mono ?_
  intro e w9 h
  obtain ⟨rfl, hb⟩ := E.out _ _ _ h
  clear h
  replace b0 := heap_below b0 hb
  replace low := low.trans (hb.mono low.size)
  have q13 := hb.size
  clear hb
  clear c10 c11 c12
  have c14 := (blk (i := 0) b0 rfl).1
  have c15 := (blk (i := 1) b0 rfl).1
  have c16 := (blk (i := 2) b0 rfl).1
  go_wp2_with fail
  refine (toGate_any a0_0 a0_1 a0_2 w9).mono ?_
  rintro e w17 ⟨rfl, hb⟩
  replace b0 := heap_below b0 hb
  replace low := low.trans (hb.mono low.size)
  have q18 := hb.size
  clear hb
  clear c14 c15 c16
  have c20 := (blk (i := 0) b0 rfl).1
  have c21 := (blk (i := 1) b0 rfl).1
  have c22 := (blk (i := 2) b0 rfl).1
  go_wp2_with fail
  refine (ex_impl_GateOk a0_0 a0_1 a0_2 a1 w17 ).mono ?_
  intro e w19 h
  obtain ⟨rfl, hb⟩ := E.out _ _ _ h
  clear h
  replace b0 := heap_below b0 hb
  replace low := low.trans (hb.mono low.size)
  have q23 := hb.size
  clear hb
  clear c20 c21 c22
  have c24 := (blk (i := 0) b0 rfl).1
  have c25 := (blk (i := 1) b0 rfl).1
  have c26 := (blk (i := 2) b0 rfl).1
  go_wp2_with fail
  go_ret
  exact ⟨by first | rfl | simp, low⟩
end Go.Proofs.Ytjihlpebnhgepaa
