/- The law FnExactReadsOf: the walk. -/
import Derived.Test.YtgnpfhopigcikaaProg
import Derived.Test.YtgnpfhopigcikaaPost
import Derived.Test.YtgnpfhopigcikaaStmtX
namespace Go.Proofs.Ytgnpfhopigcikaa
open Go Go.RowKit
set_option maxHeartbeats 1000000 in
theorem FnExactReadsOf_walk (a0_0 : Int) (a0_1 : Int) (a0_2 : Int) (a0_3 : Int) (a0_4 : Int) (a0_5 : Int) (w : World) (_h0_0 : (Lit.int .i64 a0_0).wf = true) (_h0_1 : (Lit.int .i64 a0_1).wf = true) (_h0_2 : (Lit.int .i64 a0_2).wf = true) (_h0_3 : (Lit.int .i64 a0_3).wf = true) (_h0_4 : (Lit.int .i64 a0_4).wf = true) (_h0_5 : (Lit.int .i64 a0_5).wf = true) :
    Calls Try.prog 6 #[.agg #[.int .i64 a0_0, .int .i64 a0_1, .int .i64 a0_2, .int .i64 a0_3, .int .i64 a0_4, .int .i64 a0_5]] w fun e w' => e = .returned (.bool true) ∧ Below w.heap.size w w' := by
  have low : Below w.heap.size w (w.alloc (.cells #[.int .i64 a0_0, .int .i64 a0_1, .int .i64 a0_2, .int .i64 a0_3, .int .i64 a0_4, .int .i64 a0_5] 35)) := (low_alloc (Below.refl _ _) _)
  obtain ⟨R0, hR0, bR0⟩ : ∃ r : List Int, readsOf a0_0 a0_1 a0_2 a0_3 a0_4 a0_5 = r ∧ r.length ≤ 2000000 := ⟨_, rfl, readsOf_small a0_0 a0_1 a0_2 a0_3 a0_4 a0_5⟩
  have E := Lib.hid (show ∀ w e w', Post_I (readsOf a0_0 a0_1 a0_2 a0_3 a0_4 a0_5) w e w' → Post_I R0 w e w' from by subst hR0; intro _ _ _ h; exact h)
  clear hR0
  have b0 := heap_alloc_new w (.cells #[.int .i64 a0_0, .int .i64 a0_1, .int .i64 a0_2, .int .i64 a0_3, .int .i64 a0_4, .int .i64 a0_5] 35)
  go_enter Try.func6, Try.ntmps6
  have c1 := (blk (i := 0) b0 rfl).1
  have c2 := (blk (i := 1) b0 rfl).1
  have c3 := (blk (i := 2) b0 rfl).1
  have c4 := (blk (i := 3) b0 rfl).1
  have c5 := (blk (i := 4) b0 rfl).1
  have c6 := (blk (i := 5) b0 rfl).1
  go_wp2_with fail
  generalize hw0 : (w.alloc (.cells #[.int .i64 a0_0, .int .i64 a0_1, .int .i64 a0_2, .int .i64 a0_3, .int .i64 a0_4, .int .i64 a0_5] 35)) = v0 at *
  clear hw0
  have q0 := low.size
  have q00 := heap_lt b0
  clear c1 c2 c3 c4 c5 c6
  have c8 := (blk (i := 0) b0 rfl).1
  have c9 := (blk (i := 1) b0 rfl).1
  have c10 := (blk (i := 2) b0 rfl).1
  have c11 := (blk (i := 3) b0 rfl).1
  have c12 := (blk (i := 4) b0 rfl).1
  have c13 := (blk (i := 5) b0 rfl).1
  go_wp2_with fail
  refine (toStmt_any a0_0 a0_1 a0_2 a0_3 a0_4 a0_5 v0).mono ?_
  rintro e w7 ⟨rfl, hb⟩
  replace b0 := heap_below b0 hb
  replace low := low.trans (hb.mono low.size)
  have q14 := hb.size
  clear hb
  clear c8 c9 c10 c11 c12 c13
  have c16 := (blk (i := 0) b0 rfl).1
  have c17 := (blk (i := 1) b0 rfl).1
  have c18 := (blk (i := 2) b0 rfl).1
  have c19 := (blk (i := 3) b0 rfl).1
  have c20 := (blk (i := 4) b0 rfl).1
  have c21 := (blk (i := 5) b0 rfl).1
  go_wp2_with fail
  refine (ex_spec_ReadsOf a0_0 a0_1 a0_2 a0_3 a0_4 a0_5 w7 ).mono ?_
  intro e w15 h
  obtain ⟨G22, n23, d24, rfl, l26, o25, hb⟩ := E.out _ _ _ h
  clear h
  replace b0 := heap_below b0 hb
  replace low := low.trans (hb.mono low.size)
  have q27 := hb.size
  clear hb
  have L28 := Lib.hid l26
  have bnL28 : n23 ≤ 2000000 := by rw [← l26]; exact bR0
  clear l26
  clear c16 c17 c18 c19 c20 c21
  have c30 := (blk (i := 0) b0 rfl).1
  have c31 := (blk (i := 1) b0 rfl).1
  have c32 := (blk (i := 2) b0 rfl).1
  have c33 := (blk (i := 3) b0 rfl).1
  have c34 := (blk (i := 4) b0 rfl).1
  have c35 := (blk (i := 5) b0 rfl).1
  go_wp2_with fail
  refine (toStmt_any a0_0 a0_1 a0_2 a0_3 a0_4 a0_5 w15).mono ?_
  rintro e w29 ⟨rfl, hb⟩
  replace b0 := heap_below b0 hb
  replace o25 := o25.below hb
  replace low := low.trans (hb.mono low.size)
  have q36 := hb.size
  clear hb
  clear c30 c31 c32 c33 c34 c35
  have c38 := (blk (i := 0) b0 rfl).1
  have c39 := (blk (i := 1) b0 rfl).1
  have c40 := (blk (i := 2) b0 rfl).1
  have c41 := (blk (i := 3) b0 rfl).1
  have c42 := (blk (i := 4) b0 rfl).1
  have c43 := (blk (i := 5) b0 rfl).1
  go_wp2_with fail
  refine (ex_impl_ReadsOf a0_0 a0_1 a0_2 a0_3 a0_4 a0_5 w29 ).mono ?_
  intro e w37 h
  obtain ⟨G44, n45, d46, rfl, l48, o47, hb⟩ := E.out _ _ _ h
  clear h
  replace b0 := heap_below b0 hb
  replace o25 := o25.below hb
  replace low := low.trans (hb.mono low.size)
  have q49 := hb.size
  clear hb
  obtain rfl : n23 = n45 := by rw [← l48, L28.out]
  clear l48
  clear c38 c39 c40 c41 c42 c43
  have c51 := (blk (i := 0) b0 rfl).1
  have c52 := (blk (i := 1) b0 rfl).1
  have c53 := (blk (i := 2) b0 rfl).1
  have c54 := (blk (i := 3) b0 rfl).1
  have c55 := (blk (i := 4) b0 rfl).1
  have c56 := (blk (i := 5) b0 rfl).1
  go_wp2_with fail
  refine (eqIntS_same n23 n23 d46 d24 G44 G22 R0 R0 w37 o47.ints o25.ints rfl L28.out L28.out (by omega)).mono ?_
  rintro e w50 ⟨rfl, hb⟩
  replace b0 := heap_below b0 hb
  replace o25 := o25.below hb
  replace o47 := o47.below hb
  replace low := low.trans (hb.mono low.size)
  have q57 := hb.size
  clear hb
  clear c51 c52 c53 c54 c55 c56
  have c59 := (blk (i := 0) b0 rfl).1
  have c60 := (blk (i := 1) b0 rfl).1
  have c61 := (blk (i := 2) b0 rfl).1
  have c62 := (blk (i := 3) b0 rfl).1
  have c63 := (blk (i := 4) b0 rfl).1
  have c64 := (blk (i := 5) b0 rfl).1
  go_wp2_with fail
  refine (markIntS_own _ _ n23 (1) _ R0 w50 o47 (by omega)).mono ?_
  rintro e w58 ⟨rfl, om, hg⟩
  have mg := Mid.of_grown (lo := w29.heap.size) (hi := w37.heap.size) hg (fun k e => o47.ltB e)
  clear o47 hg
  replace b0 := mg.heap b0 (.inl (by omega))
  replace o25 := o25.mid mg (.inl (by omega))
  replace low := mg.below low (by omega) low.size
  have q65 := mg.size
  clear mg
  have o66 := om
  clear om
  clear c59 c60 c61 c62 c63 c64
  have c67 := (blk (i := 0) b0 rfl).1
  have c68 := (blk (i := 1) b0 rfl).1
  have c69 := (blk (i := 2) b0 rfl).1
  have c70 := (blk (i := 3) b0 rfl).1
  have c71 := (blk (i := 4) b0 rfl).1
  have c72 := (blk (i := 5) b0 rfl).1
  go_wp2_with fail
  refine (heldIntS_any n23 (1) d46 G44 w58 o66.ints (by omega)).mono ?_
  rintro e w73 ⟨rfl, rfl⟩
  clear c67 c68 c69 c70 c71 c72
  have c75 := (blk (i := 0) b0 rfl).1
  have c76 := (blk (i := 1) b0 rfl).1
  have c77 := (blk (i := 2) b0 rfl).1
  have c78 := (blk (i := 3) b0 rfl).1
  have c79 := (blk (i := 4) b0 rfl).1
  have c80 := (blk (i := 5) b0 rfl).1
  go_wp2_with fail
  refine (toStmt_any a0_0 a0_1 a0_2 a0_3 a0_4 a0_5 w58).mono ?_
  rintro e w74 ⟨rfl, hb⟩
  replace b0 := heap_below b0 hb
  replace o25 := o25.below hb
  replace o66 := o66.below hb
  replace low := low.trans (hb.mono low.size)
  have q81 := hb.size
  clear hb
  clear c75 c76 c77 c78 c79 c80
  have c83 := (blk (i := 0) b0 rfl).1
  have c84 := (blk (i := 1) b0 rfl).1
  have c85 := (blk (i := 2) b0 rfl).1
  have c86 := (blk (i := 3) b0 rfl).1
  have c87 := (blk (i := 4) b0 rfl).1
  have c88 := (blk (i := 5) b0 rfl).1
  go_wp2_with fail
  refine (ex_impl_ReadsOf a0_0 a0_1 a0_2 a0_3 a0_4 a0_5 w74 ).mono ?_
  intro e w82 h
  obtain ⟨G89, n90, d91, rfl, l93, o92, hb⟩ := E.out _ _ _ h
  clear h
  replace b0 := heap_below b0 hb
  replace o25 := o25.below hb
  replace o66 := o66.below hb
  replace low := low.trans (hb.mono low.size)
  have q94 := hb.size
  clear hb
  obtain rfl : n23 = n90 := by rw [← l93, L28.out]
  clear l93
  clear c83 c84 c85 c86 c87 c88
  have c96 := (blk (i := 0) b0 rfl).1
  have c97 := (blk (i := 1) b0 rfl).1
  have c98 := (blk (i := 2) b0 rfl).1
  have c99 := (blk (i := 3) b0 rfl).1
  have c100 := (blk (i := 4) b0 rfl).1
  have c101 := (blk (i := 5) b0 rfl).1
  go_wp2_with fail
  refine (eqIntS_same n23 n23 d91 d24 G89 G22 R0 R0 w82 o92.ints o25.ints rfl L28.out L28.out (by omega)).mono ?_
  rintro e w95 ⟨rfl, hb⟩
  replace b0 := heap_below b0 hb
  replace o25 := o25.below hb
  replace o66 := o66.below hb
  replace o92 := o92.below hb
  replace low := low.trans (hb.mono low.size)
  have q102 := hb.size
  clear hb
  clear c96 c97 c98 c99 c100 c101
  have c103 := (blk (i := 0) b0 rfl).1
  have c104 := (blk (i := 1) b0 rfl).1
  have c105 := (blk (i := 2) b0 rfl).1
  have c106 := (blk (i := 3) b0 rfl).1
  have c107 := (blk (i := 4) b0 rfl).1
  have c108 := (blk (i := 5) b0 rfl).1
  go_wp2_with fail
  refine (heldIntS_any n23 (1) d46 G44 w95 o66.ints (by omega)).mono ?_
  rintro e w109 ⟨rfl, rfl⟩
  clear c103 c104 c105 c106 c107 c108
  have c110 := (blk (i := 0) b0 rfl).1
  have c111 := (blk (i := 1) b0 rfl).1
  have c112 := (blk (i := 2) b0 rfl).1
  have c113 := (blk (i := 3) b0 rfl).1
  have c114 := (blk (i := 4) b0 rfl).1
  have c115 := (blk (i := 5) b0 rfl).1
  go_wp2_with fail
  go_ret
  exact ⟨by first | rfl | simp, low⟩
end Go.Proofs.Ytgnpfhopigcikaa
