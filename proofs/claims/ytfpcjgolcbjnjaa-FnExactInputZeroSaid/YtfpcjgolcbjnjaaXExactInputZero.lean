/- The law FnExactInputZero: the walk. -/
import Derived.Test.YtfpcjgolcbjnjaaProg
import Derived.Test.YtfpcjgolcbjnjaaB1
import Derived.Test.YtfpcjgolcbjnjaaGbX
import Derived.Test.YtfpcjgolcbjnjaaTapeX
namespace Go.Proofs.Ytfpcjgolcbjnjaa
open Go Go.RowKit
set_option maxHeartbeats 1000000 in
theorem FnExactInputZero_walk (a0_0 : Int) (a0_1 : Int) (a1 : Int) (w : World) (_h0_0 : (Lit.int .i64 a0_0).wf = true) (_h0_1 : (Lit.int .i64 a0_1).wf = true) (_h1 : (Lit.int .i64 a1).wf = true) :
    Calls Try.prog 5 #[.agg #[.int .i64 a0_0, .int .i64 a0_1], .int .i64 a1] w fun e w' => e = .returned (.bool true) ∧ Below w.heap.size w w' := by
  have low : Below w.heap.size w (w.alloc (.cells #[.int .i64 a0_0, .int .i64 a0_1] 47)) := (low_alloc (Below.refl _ _) _)
  obtain ⟨R0, hR0⟩ : ∃ r, izI a0_0 a0_1 a1 = r := ⟨_, rfl⟩
  have E := Lib.hid (show ∀ w e w', Post_int (izI a0_0 a0_1 a1) w e w' → Post_int R0 w e w' from by subst hR0; intro _ _ _ h; exact h)
  clear hR0
  have b0 := heap_alloc_new w (.cells #[.int .i64 a0_0, .int .i64 a0_1] 47)
  go_enter Try.func5, Try.ntmps5
  have c1 := (blk (i := 0) b0 rfl).1
  have c2 := (blk (i := 1) b0 rfl).1
  go_wp2_with fail
  generalize hw0 : (w.alloc (.cells #[.int .i64 a0_0, .int .i64 a0_1] 47)) = v0 at *
  clear hw0
  have q0 := low.size
  have q00 := heap_lt b0
  clear c1 c2
  have c4 := (blk (i := 0) b0 rfl).1
  have c5 := (blk (i := 1) b0 rfl).1
  go_wp2_with fail
  refine (toTape_any a0_0 a0_1 v0).mono ?_
  rintro e w3 ⟨rfl, hb⟩
  replace b0 := heap_below b0 hb
  replace low := low.trans (hb.mono low.size)
  have q6 := hb.size
  clear hb
  clear c4 c5
  have c8 := (blk (i := 0) b0 rfl).1
  have c9 := (blk (i := 1) b0 rfl).1
  go_wp2_with fail
  refine (ex_spec_InputZero a0_0 a0_1 a1 w3 ).mono ?_
  intro e w7 h
  obtain ⟨rfl, hb⟩ := E.out _ _ _ h
  clear h
  replace b0 := heap_below b0 hb
  replace low := low.trans (hb.mono low.size)
  have q10 := hb.size
  clear hb
  clear c8 c9
  have c12 := (blk (i := 0) b0 rfl).1
  have c13 := (blk (i := 1) b0 rfl).1
  go_wp2_with fail
  refine (toTape_any a0_0 a0_1 w7).mono ?_
  rintro e w11 ⟨rfl, hb⟩
  replace b0 := heap_below b0 hb
  replace low := low.trans (hb.mono low.size)
  have q14 := hb.size
  clear hb
  clear c12 c13
  have c16 := (blk (i := 0) b0 rfl).1
  have c17 := (blk (i := 1) b0 rfl).1
  go_wp2_with fail
  refine (ex_impl_InputZero a0_0 a0_1 a1 w11 ).mono ?_
  intro e w15 h
  obtain ⟨rfl, hb⟩ := E.out _ _ _ h
  clear h
  replace b0 := heap_below b0 hb
  replace low := low.trans (hb.mono low.size)
  have q18 := hb.size
  clear hb
  clear c16 c17
  have c19 := (blk (i := 0) b0 rfl).1
  have c20 := (blk (i := 1) b0 rfl).1
  go_wp2_with fail
  go_ret
  exact ⟨by first | rfl | simp, low⟩
end Go.Proofs.Ytfpcjgolcbjnjaa
