/- The law FnExactDeltaOf: the walk. -/
import Derived.Test.YtcmclcjhflaplaaProg
import Derived.Test.YtcmclcjhflaplaaB1
import Derived.Test.YtcmclcjhflaplaaLabX
namespace Go.Proofs.Ytcmclcjhflaplaa
open Go Go.RowKit
set_option maxHeartbeats 1000000 in
theorem FnExactDeltaOf_walk (a0_0 : Int) (a0_1 : Int) (w : World) (_h0_0 : (Lit.int .i64 a0_0).wf = true) (_h0_1 : (Lit.int .i64 a0_1).wf = true) :
    Calls Try.prog 5 #[.agg #[.int .i64 a0_0, .int .i64 a0_1]] w fun e w' => e = .returned (.bool true) ∧ Below w.heap.size w w' := by
  have low : Below w.heap.size w (w.alloc (.cells #[.int .i64 a0_0, .int .i64 a0_1] 34)) := (low_alloc (Below.refl _ _) _)
  obtain ⟨R0, hR0⟩ : ∃ r, dltI a0_0 a0_1 = r := ⟨_, rfl⟩
  obtain ⟨R1, hR1⟩ : ∃ r, a0_0 = r := ⟨_, rfl⟩
  obtain ⟨R2, hR2⟩ : ∃ r, dltA a0_0 a0_1 = r := ⟨_, rfl⟩
  have E := Lib.hid (show ∀ w e w', Post_int_Tape (dltI a0_0 a0_1) (a0_0) (dltA a0_0 a0_1) w e w' → Post_int_Tape R0 R1 R2 w e w' from by subst hR0 hR1 hR2; intro _ _ _ h; exact h)
  clear hR0 hR1 hR2
  have b0 := heap_alloc_new w (.cells #[.int .i64 a0_0, .int .i64 a0_1] 34)
  go_enter Try.func5, Try.ntmps5
  have c1 := (blk (i := 0) b0 rfl).1
  have c2 := (blk (i := 1) b0 rfl).1
  go_wp2_with fail
  generalize hw0 : (w.alloc (.cells #[.int .i64 a0_0, .int .i64 a0_1] 34)) = v0 at *
  clear hw0
  have q0 := low.size
  have q00 := heap_lt b0
  clear c1 c2
  have c4 := (blk (i := 0) b0 rfl).1
  have c5 := (blk (i := 1) b0 rfl).1
  go_wp2_with fail
  refine (toTape_any a0_0 a0_1 v0).mono ?_
  rintro e w3 ⟨rfl, hb⟩
  replace b0 := heap_below b0 hb
  replace low := low.trans (hb.mono low.size)
  have q6 := hb.size
  clear hb
  clear c4 c5
  have c8 := (blk (i := 0) b0 rfl).1
  have c9 := (blk (i := 1) b0 rfl).1
  go_wp2_with fail
  refine (ex_spec_DeltaOf a0_0 a0_1 w3 ).mono ?_
  intro e w7 h
  obtain ⟨rfl, hb⟩ := E.out _ _ _ h
  clear h
  replace b0 := heap_below b0 hb
  replace low := low.trans (hb.mono low.size)
  have q10 := hb.size
  clear hb
  replace b0 := heap_alloc b0 (.cells #[.int .i64 R1, .int .i64 R2] 25)
  replace low := low_alloc low (.cells #[.int .i64 R1, .int .i64 R2] 25)
  have b11 := heap_alloc_new w7 (.cells #[.int .i64 R1, .int .i64 R2] 25)
  have q12 := heap_lt b11
  clear c8 c9
  have c14 := (blk (i := 0) b0 rfl).1
  have c15 := (blk (i := 1) b0 rfl).1
  have c16 := (blk (i := 0) b11 rfl).1
  have c17 := (blk (i := 1) b11 rfl).1
  go_wp2_with fail
  generalize hg : (w7.alloc (.cells #[.int .i64 R1, .int .i64 R2] 25)) = w13 at *
  clear hg
  clear c14 c15 c16 c17
  have c19 := (blk (i := 0) b0 rfl).1
  have c20 := (blk (i := 1) b0 rfl).1
  have c21 := (blk (i := 0) b11 rfl).1
  have c22 := (blk (i := 1) b11 rfl).1
  go_wp2_with fail
  refine (toTape_any a0_0 a0_1 w13).mono ?_
  rintro e w18 ⟨rfl, hb⟩
  replace b0 := heap_below b0 hb
  replace b11 := heap_below b11 hb
  replace low := low.trans (hb.mono low.size)
  have q23 := hb.size
  clear hb
  clear c19 c20 c21 c22
  have c25 := (blk (i := 0) b0 rfl).1
  have c26 := (blk (i := 1) b0 rfl).1
  have c27 := (blk (i := 0) b11 rfl).1
  have c28 := (blk (i := 1) b11 rfl).1
  go_wp2_with fail
  refine (ex_impl_DeltaOf a0_0 a0_1 w18 ).mono ?_
  intro e w24 h
  obtain ⟨rfl, hb⟩ := E.out _ _ _ h
  clear h
  replace b0 := heap_below b0 hb
  replace b11 := heap_below b11 hb
  replace low := low.trans (hb.mono low.size)
  have q29 := hb.size
  clear hb
  replace b0 := heap_alloc b0 (.cells #[.int .i64 R1, .int .i64 R2] 25)
  replace b11 := heap_alloc b11 (.cells #[.int .i64 R1, .int .i64 R2] 25)
  replace low := low_alloc low (.cells #[.int .i64 R1, .int .i64 R2] 25)
  have b30 := heap_alloc_new w24 (.cells #[.int .i64 R1, .int .i64 R2] 25)
  have q31 := heap_lt b30
  clear c25 c26 c27 c28
  have c33 := (blk (i := 0) b0 rfl).1
  have c34 := (blk (i := 1) b0 rfl).1
  have c35 := (blk (i := 0) b11 rfl).1
  have c36 := (blk (i := 1) b11 rfl).1
  have c37 := (blk (i := 0) b30 rfl).1
  have c38 := (blk (i := 1) b30 rfl).1
  go_wp2_with fail
  generalize hg : (w24.alloc (.cells #[.int .i64 R1, .int .i64 R2] 25)) = w32 at *
  clear hg
  clear c33 c34 c35 c36 c37 c38
  have c40 := (blk (i := 0) b0 rfl).1
  have c41 := (blk (i := 1) b0 rfl).1
  have c42 := (blk (i := 0) b11 rfl).1
  have c43 := (blk (i := 1) b11 rfl).1
  have c44 := (blk (i := 0) b30 rfl).1
  have c45 := (blk (i := 1) b30 rfl).1
  go_wp2_with fail
  refine (eqTape_any R1 R2 w32).mono ?_
  rintro e w39 ⟨rfl, hb⟩
  replace b0 := heap_below b0 hb
  replace b11 := heap_below b11 hb
  replace b30 := heap_below b30 hb
  replace low := low.trans (hb.mono low.size)
  have q46 := hb.size
  clear hb
  clear c40 c41 c42 c43 c44 c45
  have c47 := (blk (i := 0) b0 rfl).1
  have c48 := (blk (i := 1) b0 rfl).1
  have c49 := (blk (i := 0) b11 rfl).1
  have c50 := (blk (i := 1) b11 rfl).1
  have c51 := (blk (i := 0) b30 rfl).1
  have c52 := (blk (i := 1) b30 rfl).1
  go_wp2_with fail
  go_ret
  exact ⟨by first | rfl | simp, low⟩
end Go.Proofs.Ytcmclcjhflaplaa
