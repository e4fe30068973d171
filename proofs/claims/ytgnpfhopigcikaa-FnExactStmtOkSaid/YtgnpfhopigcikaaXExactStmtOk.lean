/- The law FnExactStmtOk: the walk. -/
import Derived.Test.YtgnpfhopigcikaaProg
import Derived.Test.YtgnpfhopigcikaaPost
import Derived.Test.YtgnpfhopigcikaaStmtX
namespace Go.Proofs.Ytgnpfhopigcikaa
open Go Go.RowKit
set_option maxHeartbeats 1000000 in
theorem FnExactStmtOk_walk (a0_0 : Int) (a0_1 : Int) (a0_2 : Int) (a0_3 : Int) (a0_4 : Int) (a0_5 : Int) (w : World) (_h0_0 : (Lit.int .i64 a0_0).wf = true) (_h0_1 : (Lit.int .i64 a0_1).wf = true) (_h0_2 : (Lit.int .i64 a0_2).wf = true) (_h0_3 : (Lit.int .i64 a0_3).wf = true) (_h0_4 : (Lit.int .i64 a0_4).wf = true) (_h0_5 : (Lit.int .i64 a0_5).wf = true) :
    Calls Try.prog 4 #[.agg #[.int .i64 a0_0, .int .i64 a0_1, .int .i64 a0_2, .int .i64 a0_3, .int .i64 a0_4, .int .i64 a0_5]] w fun e w' => e = .returned (.bool true) ∧ Below w.heap.size w w' := by
  have low : Below w.heap.size w (w.alloc (.cells #[.int .i64 a0_0, .int .i64 a0_1, .int .i64 a0_2, .int .i64 a0_3, .int .i64 a0_4, .int .i64 a0_5] 35)) := (low_alloc (Below.refl _ _) _)
  obtain ⟨R0, hR0⟩ : ∃ r, decide (okI a0_0 a0_1 a0_2 a0_3 a0_4 a0_5) = r := ⟨_, rfl⟩
  have E := Lib.hid (show ∀ w e w', Post_bool (decide (okI a0_0 a0_1 a0_2 a0_3 a0_4 a0_5)) w e w' → Post_bool R0 w e w' from by subst hR0; intro _ _ _ h; exact h)
  clear hR0
  have b0 := heap_alloc_new w (.cells #[.int .i64 a0_0, .int .i64 a0_1, .int .i64 a0_2, .int .i64 a0_3, .int .i64 a0_4, .int .i64 a0_5] 35)
  go_enter Try.func4, Try.ntmps4
  have c1 := (blk (i := 0) b0 rfl).1
  have c2 := (blk (i := 1) b0 rfl).1
  have c3 := (blk (i := 2) b0 rfl).1
  have c4 := (blk (i := 3) b0 rfl).1
  have c5 := (blk (i := 4) b0 rfl).1
  have c6 := (blk (i := 5) b0 rfl).1
  go_wp2_with fail
  generalize hw0 : (w.alloc (.cells #[.int .i64 a0_0, .int .i64 a0_1, .int .i64 a0_2, .int .i64 a0_3, .int .i64 a0_4, .int .i64 a0_5] 35)) = v0 at *
  clear hw0
  have q0 := low.size
  have q00 := heap_lt b0
  clear c1 c2 c3 c4 c5 c6
  have c8 := (blk (i := 0) b0 rfl).1
  have c9 := (blk (i := 1) b0 rfl).1
  have c10 := (blk (i := 2) b0 rfl).1
  have c11 := (blk (i := 3) b0 rfl).1
  have c12 := (blk (i := 4) b0 rfl).1
  have c13 := (blk (i := 5) b0 rfl).1
  go_wp2_with fail
  refine (toStmt_any a0_0 a0_1 a0_2 a0_3 a0_4 a0_5 v0).mono ?_
  rintro e w7 ⟨rfl, hb⟩
  replace b0 := heap_below b0 hb
  replace low := low.trans (hb.mono low.size)
  have q14 := hb.size
  clear hb
  clear c8 c9 c10 c11 c12 c13
  have c16 := (blk (i := 0) b0 rfl).1
  have c17 := (blk (i := 1) b0 rfl).1
  have c18 := (blk (i := 2) b0 rfl).1
  have c19 := (blk (i := 3) b0 rfl).1
  have c20 := (blk (i := 4) b0 rfl).1
  have c21 := (blk (i := 5) b0 rfl).1
  go_wp2_with fail
  refine (ex_spec_StmtOk a0_0 a0_1 a0_2 a0_3 a0_4 a0_5 w7 ).mono ?_
  intro e w15 h
  obtain ⟨rfl, hb⟩ := E.out _ _ _ h
  clear h
  replace b0 := heap_below b0 hb
  replace low := low.trans (hb.mono low.size)
  have q22 := hb.size
  clear hb
  clear c16 c17 c18 c19 c20 c21
  have c24 := (blk (i := 0) b0 rfl).1
  have c25 := (blk (i := 1) b0 rfl).1
  have c26 := (blk (i := 2) b0 rfl).1
  have c27 := (blk (i := 3) b0 rfl).1
  have c28 := (blk (i := 4) b0 rfl).1
  have c29 := (blk (i := 5) b0 rfl).1
  go_wp2_with fail
  refine (toStmt_any a0_0 a0_1 a0_2 a0_3 a0_4 a0_5 w15).mono ?_
  rintro e w23 ⟨rfl, hb⟩
  replace b0 := heap_below b0 hb
  replace low := low.trans (hb.mono low.size)
  have q30 := hb.size
  clear hb
  clear c24 c25 c26 c27 c28 c29
  have c32 := (blk (i := 0) b0 rfl).1
  have c33 := (blk (i := 1) b0 rfl).1
  have c34 := (blk (i := 2) b0 rfl).1
  have c35 := (blk (i := 3) b0 rfl).1
  have c36 := (blk (i := 4) b0 rfl).1
  have c37 := (blk (i := 5) b0 rfl).1
  go_wp2_with fail
  refine (ex_impl_StmtOk a0_0 a0_1 a0_2 a0_3 a0_4 a0_5 w23 ).mono ?_
  intro e w31 h
  obtain ⟨rfl, hb⟩ := E.out _ _ _ h
  clear h
  replace b0 := heap_below b0 hb
  replace low := low.trans (hb.mono low.size)
  have q38 := hb.size
  clear hb
  clear c32 c33 c34 c35 c36 c37
  have c39 := (blk (i := 0) b0 rfl).1
  have c40 := (blk (i := 1) b0 rfl).1
  have c41 := (blk (i := 2) b0 rfl).1
  have c42 := (blk (i := 3) b0 rfl).1
  have c43 := (blk (i := 4) b0 rfl).1
  have c44 := (blk (i := 5) b0 rfl).1
  go_wp2_with fail
  go_ret
  exact ⟨by first | rfl | simp, low⟩
end Go.Proofs.Ytgnpfhopigcikaa
