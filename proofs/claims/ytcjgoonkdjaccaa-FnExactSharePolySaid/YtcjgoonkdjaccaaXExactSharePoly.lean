/- The law FnExactSharePoly: the walk. -/
import Derived.Test.YtcjgoonkdjaccaaProg
import Derived.Test.YtcjgoonkdjaccaaPost
import Derived.Test.YtcjgoonkdjaccaaPolyZ
namespace Go.Proofs.Ytcjgoonkdjaccaa
open Go Go.RowKit
set_option maxHeartbeats 1000000 in
theorem FnExactSharePoly_walk (a0 : Int) (a1 : Int) (a2 : Int) (a3 : Int) (a4_0 : Int) (a4_1 : Int) (w : World) (_h0 : (Lit.int .i64 a0).wf = true) (_h1 : (Lit.int .i64 a1).wf = true) (_h2 : (Lit.int .i64 a2).wf = true) (_h3 : (Lit.int .i64 a3).wf = true) (_h4_0 : (Lit.int .i64 a4_0).wf = true) (_h4_1 : (Lit.int .i64 a4_1).wf = true) :
    Calls Try.prog 8 #[.int .i64 a0, .int .i64 a1, .int .i64 a2, .int .i64 a3, .agg #[.int .i64 a4_0, .int .i64 a4_1]] w fun e w' => e = .returned (.bool true) ∧ Below w.heap.size w w' := by
  have low : Below w.heap.size w (w.alloc (.cells #[.int .i64 a4_0, .int .i64 a4_1] 38)) := (low_alloc (Below.refl _ _) _)
  obtain ⟨R0, hR0, bR0⟩ : ∃ r : List Int, spI a0 a1 a2 a3 a4_0 a4_1 = r ∧ r.length ≤ 2000000 := ⟨_, rfl, by have := spI_length a0 a1 a2 a3 a4_0 a4_1; omega⟩
  obtain ⟨R1, hR1⟩ : ∃ r, a4_0 = r := ⟨_, rfl⟩
  obtain ⟨R2, hR2⟩ : ∃ r, spaI a0 a1 a2 a3 a4_0 a4_1 = r := ⟨_, rfl⟩
  have E := Lib.hid (show ∀ w e w', Post_I_Tape (spI a0 a1 a2 a3 a4_0 a4_1) (a4_0) (spaI a0 a1 a2 a3 a4_0 a4_1) w e w' → Post_I_Tape R0 R1 R2 w e w' from by subst hR0 hR1 hR2; intro _ _ _ h; exact h)
  clear hR0 hR1 hR2
  have b4 := heap_alloc_new w (.cells #[.int .i64 a4_0, .int .i64 a4_1] 38)
  go_enter Try.func8, Try.ntmps8
  have c1 := (blk (i := 0) b4 rfl).1
  have c2 := (blk (i := 1) b4 rfl).1
  go_wp2_with fail
  generalize hw0 : (w.alloc (.cells #[.int .i64 a4_0, .int .i64 a4_1] 38)) = v0 at *
  clear hw0
  have q0 := low.size
  have q04 := heap_lt b4
  clear c1 c2
  have c4 := (blk (i := 0) b4 rfl).1
  have c5 := (blk (i := 1) b4 rfl).1
  go_wp2_with fail
  refine (toTape_any a4_0 a4_1 v0).mono ?_
  rintro e w3 ⟨rfl, hb⟩
  replace b4 := heap_below b4 hb
  replace low := low.trans (hb.mono low.size)
  have q6 := hb.size
  clear hb
  clear c4 c5
  have c8 := (blk (i := 0) b4 rfl).1
  have c9 := (blk (i := 1) b4 rfl).1
  go_wp2_with fail
  refine (ex_spec_SharePoly a0 a1 a2 a3 a4_0 a4_1 w3 ).mono ?_
  intro e w7 h
  obtain ⟨G10, n11, d12, rfl, l14, o13, hb⟩ := E.out _ _ _ h
  clear h
  replace b4 := heap_below b4 hb
  replace low := low.trans (hb.mono low.size)
  have q15 := hb.size
  clear hb
  have L16 := Lib.hid l14
  have bnL16 : n11 ≤ 2000000 := by rw [← l14]; exact bR0
  clear l14
  replace b4 := heap_alloc b4 (.cells #[.int .i64 R1, .int .i64 R2] 27)
  replace o13 := o13.alloc (.cells #[.int .i64 R1, .int .i64 R2] 27)
  replace low := low_alloc low (.cells #[.int .i64 R1, .int .i64 R2] 27)
  have b17 := heap_alloc_new w7 (.cells #[.int .i64 R1, .int .i64 R2] 27)
  have q18 := heap_lt b17
  clear c8 c9
  have c20 := (blk (i := 0) b4 rfl).1
  have c21 := (blk (i := 1) b4 rfl).1
  have c22 := (blk (i := 0) b17 rfl).1
  have c23 := (blk (i := 1) b17 rfl).1
  go_wp2_with fail
  generalize hg : (w7.alloc (.cells #[.int .i64 R1, .int .i64 R2] 27)) = w19 at *
  clear hg
  clear c20 c21 c22 c23
  have c25 := (blk (i := 0) b4 rfl).1
  have c26 := (blk (i := 1) b4 rfl).1
  have c27 := (blk (i := 0) b17 rfl).1
  have c28 := (blk (i := 1) b17 rfl).1
  go_wp2_with fail
  refine (toTape_any a4_0 a4_1 w19).mono ?_
  rintro e w24 ⟨rfl, hb⟩
  replace b4 := heap_below b4 hb
  replace o13 := o13.below hb
  replace b17 := heap_below b17 hb
  replace low := low.trans (hb.mono low.size)
  have q29 := hb.size
  clear hb
  clear c25 c26 c27 c28
  have c31 := (blk (i := 0) b4 rfl).1
  have c32 := (blk (i := 1) b4 rfl).1
  have c33 := (blk (i := 0) b17 rfl).1
  have c34 := (blk (i := 1) b17 rfl).1
  go_wp2_with fail
  refine (ex_impl_SharePoly a0 a1 a2 a3 a4_0 a4_1 w24 ).mono ?_
  intro e w30 h
  obtain ⟨G35, n36, d37, rfl, l39, o38, hb⟩ := E.out _ _ _ h
  clear h
  replace b4 := heap_below b4 hb
  replace o13 := o13.below hb
  replace b17 := heap_below b17 hb
  replace low := low.trans (hb.mono low.size)
  have q40 := hb.size
  clear hb
  obtain rfl : n11 = n36 := by rw [← l39, L16.out]
  clear l39
  replace b4 := heap_alloc b4 (.cells #[.int .i64 R1, .int .i64 R2] 27)
  replace o13 := o13.alloc (.cells #[.int .i64 R1, .int .i64 R2] 27)
  replace b17 := heap_alloc b17 (.cells #[.int .i64 R1, .int .i64 R2] 27)
  replace o38 := o38.alloc (.cells #[.int .i64 R1, .int .i64 R2] 27)
  replace low := low_alloc low (.cells #[.int .i64 R1, .int .i64 R2] 27)
  have b41 := heap_alloc_new w30 (.cells #[.int .i64 R1, .int .i64 R2] 27)
  have q42 := heap_lt b41
  clear c31 c32 c33 c34
  have c44 := (blk (i := 0) b4 rfl).1
  have c45 := (blk (i := 1) b4 rfl).1
  have c46 := (blk (i := 0) b17 rfl).1
  have c47 := (blk (i := 1) b17 rfl).1
  have c48 := (blk (i := 0) b41 rfl).1
  have c49 := (blk (i := 1) b41 rfl).1
  go_wp2_with fail
  generalize hg : (w30.alloc (.cells #[.int .i64 R1, .int .i64 R2] 27)) = w43 at *
  clear hg
  clear c44 c45 c46 c47 c48 c49
  have c51 := (blk (i := 0) b4 rfl).1
  have c52 := (blk (i := 1) b4 rfl).1
  have c53 := (blk (i := 0) b17 rfl).1
  have c54 := (blk (i := 1) b17 rfl).1
  have c55 := (blk (i := 0) b41 rfl).1
  have c56 := (blk (i := 1) b41 rfl).1
  go_wp2_with fail
  refine (eqIntS_same n11 n11 d37 d12 G35 G10 R0 R0 w43 o38.ints o13.ints rfl L16.out L16.out (by omega)).mono ?_
  rintro e w50 ⟨rfl, hb⟩
  replace b4 := heap_below b4 hb
  replace o13 := o13.below hb
  replace b17 := heap_below b17 hb
  replace o38 := o38.below hb
  replace b41 := heap_below b41 hb
  replace low := low.trans (hb.mono low.size)
  have q57 := hb.size
  clear hb
  clear c51 c52 c53 c54 c55 c56
  have c59 := (blk (i := 0) b4 rfl).1
  have c60 := (blk (i := 1) b4 rfl).1
  have c61 := (blk (i := 0) b17 rfl).1
  have c62 := (blk (i := 1) b17 rfl).1
  have c63 := (blk (i := 0) b41 rfl).1
  have c64 := (blk (i := 1) b41 rfl).1
  go_wp2_with fail
  refine (eqTape_any R1 R2 w50).mono ?_
  rintro e w58 ⟨rfl, hb⟩
  replace b4 := heap_below b4 hb
  replace o13 := o13.below hb
  replace b17 := heap_below b17 hb
  replace o38 := o38.below hb
  replace b41 := heap_below b41 hb
  replace low := low.trans (hb.mono low.size)
  have q65 := hb.size
  clear hb
  clear c59 c60 c61 c62 c63 c64
  have c67 := (blk (i := 0) b4 rfl).1
  have c68 := (blk (i := 1) b4 rfl).1
  have c69 := (blk (i := 0) b17 rfl).1
  have c70 := (blk (i := 1) b17 rfl).1
  have c71 := (blk (i := 0) b41 rfl).1
  have c72 := (blk (i := 1) b41 rfl).1
  go_wp2_with fail
  refine (markIntS_own _ _ n11 (1) _ R0 w58 o38 (by omega)).mono ?_
  rintro e w66 ⟨rfl, om, hg⟩
  have mg := Mid.of_grown (lo := w24.heap.size) (hi := w30.heap.size) hg (fun k e => o38.ltB e)
  clear o38 hg
  replace b4 := mg.heap b4 (.inl (by omega))
  replace o13 := o13.mid mg (.inl (by omega))
  replace b17 := mg.heap b17 (.inl (by omega))
  replace b41 := mg.heap b41 (.inr (by omega))
  replace low := mg.below low (by omega) low.size
  have q73 := mg.size
  clear mg
  have o74 := om
  clear om
  clear c67 c68 c69 c70 c71 c72
  have c75 := (blk (i := 0) b4 rfl).1
  have c76 := (blk (i := 1) b4 rfl).1
  have c77 := (blk (i := 0) b17 rfl).1
  have c78 := (blk (i := 1) b17 rfl).1
  have c79 := (blk (i := 0) b41 rfl).1
  have c80 := (blk (i := 1) b41 rfl).1
  go_wp2_with fail
  refine (heldIntS_any n11 (1) d37 G35 w66 o74.ints (by omega)).mono ?_
  rintro e w81 ⟨rfl, rfl⟩
  clear c75 c76 c77 c78 c79 c80
  have c83 := (blk (i := 0) b4 rfl).1
  have c84 := (blk (i := 1) b4 rfl).1
  have c85 := (blk (i := 0) b17 rfl).1
  have c86 := (blk (i := 1) b17 rfl).1
  have c87 := (blk (i := 0) b41 rfl).1
  have c88 := (blk (i := 1) b41 rfl).1
  go_wp2_with fail
  refine (toTape_any a4_0 a4_1 w66).mono ?_
  rintro e w82 ⟨rfl, hb⟩
  replace b4 := heap_below b4 hb
  replace o13 := o13.below hb
  replace b17 := heap_below b17 hb
  replace b41 := heap_below b41 hb
  replace o74 := o74.below hb
  replace low := low.trans (hb.mono low.size)
  have q89 := hb.size
  clear hb
  clear c83 c84 c85 c86 c87 c88
  have c91 := (blk (i := 0) b4 rfl).1
  have c92 := (blk (i := 1) b4 rfl).1
  have c93 := (blk (i := 0) b17 rfl).1
  have c94 := (blk (i := 1) b17 rfl).1
  have c95 := (blk (i := 0) b41 rfl).1
  have c96 := (blk (i := 1) b41 rfl).1
  go_wp2_with fail
  refine (ex_impl_SharePoly a0 a1 a2 a3 a4_0 a4_1 w82 ).mono ?_
  intro e w90 h
  obtain ⟨G97, n98, d99, rfl, l101, o100, hb⟩ := E.out _ _ _ h
  clear h
  replace b4 := heap_below b4 hb
  replace o13 := o13.below hb
  replace b17 := heap_below b17 hb
  replace b41 := heap_below b41 hb
  replace o74 := o74.below hb
  replace low := low.trans (hb.mono low.size)
  have q102 := hb.size
  clear hb
  obtain rfl : n11 = n98 := by rw [← l101, L16.out]
  clear l101
  replace b4 := heap_alloc b4 (.cells #[.int .i64 R1, .int .i64 R2] 27)
  replace o13 := o13.alloc (.cells #[.int .i64 R1, .int .i64 R2] 27)
  replace b17 := heap_alloc b17 (.cells #[.int .i64 R1, .int .i64 R2] 27)
  replace b41 := heap_alloc b41 (.cells #[.int .i64 R1, .int .i64 R2] 27)
  replace o74 := o74.alloc (.cells #[.int .i64 R1, .int .i64 R2] 27)
  replace o100 := o100.alloc (.cells #[.int .i64 R1, .int .i64 R2] 27)
  replace low := low_alloc low (.cells #[.int .i64 R1, .int .i64 R2] 27)
  have b103 := heap_alloc_new w90 (.cells #[.int .i64 R1, .int .i64 R2] 27)
  have q104 := heap_lt b103
  clear c91 c92 c93 c94 c95 c96
  have c106 := (blk (i := 0) b4 rfl).1
  have c107 := (blk (i := 1) b4 rfl).1
  have c108 := (blk (i := 0) b17 rfl).1
  have c109 := (blk (i := 1) b17 rfl).1
  have c110 := (blk (i := 0) b41 rfl).1
  have c111 := (blk (i := 1) b41 rfl).1
  have c112 := (blk (i := 0) b103 rfl).1
  have c113 := (blk (i := 1) b103 rfl).1
  go_wp2_with fail
  generalize hg : (w90.alloc (.cells #[.int .i64 R1, .int .i64 R2] 27)) = w105 at *
  clear hg
  clear c106 c107 c108 c109 c110 c111 c112 c113
  have c115 := (blk (i := 0) b4 rfl).1
  have c116 := (blk (i := 1) b4 rfl).1
  have c117 := (blk (i := 0) b17 rfl).1
  have c118 := (blk (i := 1) b17 rfl).1
  have c119 := (blk (i := 0) b41 rfl).1
  have c120 := (blk (i := 1) b41 rfl).1
  have c121 := (blk (i := 0) b103 rfl).1
  have c122 := (blk (i := 1) b103 rfl).1
  go_wp2_with fail
  refine (eqIntS_same n11 n11 d99 d12 G97 G10 R0 R0 w105 o100.ints o13.ints rfl L16.out L16.out (by omega)).mono ?_
  rintro e w114 ⟨rfl, hb⟩
  replace b4 := heap_below b4 hb
  replace o13 := o13.below hb
  replace b17 := heap_below b17 hb
  replace b41 := heap_below b41 hb
  replace o74 := o74.below hb
  replace o100 := o100.below hb
  replace b103 := heap_below b103 hb
  replace low := low.trans (hb.mono low.size)
  have q123 := hb.size
  clear hb
  clear c115 c116 c117 c118 c119 c120 c121 c122
  have c125 := (blk (i := 0) b4 rfl).1
  have c126 := (blk (i := 1) b4 rfl).1
  have c127 := (blk (i := 0) b17 rfl).1
  have c128 := (blk (i := 1) b17 rfl).1
  have c129 := (blk (i := 0) b41 rfl).1
  have c130 := (blk (i := 1) b41 rfl).1
  have c131 := (blk (i := 0) b103 rfl).1
  have c132 := (blk (i := 1) b103 rfl).1
  go_wp2_with fail
  refine (eqTape_any R1 R2 w114).mono ?_
  rintro e w124 ⟨rfl, hb⟩
  replace b4 := heap_below b4 hb
  replace o13 := o13.below hb
  replace b17 := heap_below b17 hb
  replace b41 := heap_below b41 hb
  replace o74 := o74.below hb
  replace o100 := o100.below hb
  replace b103 := heap_below b103 hb
  replace low := low.trans (hb.mono low.size)
  have q133 := hb.size
  clear hb
  clear c125 c126 c127 c128 c129 c130 c131 c132
  have c134 := (blk (i := 0) b4 rfl).1
  have c135 := (blk (i := 1) b4 rfl).1
  have c136 := (blk (i := 0) b17 rfl).1
  have c137 := (blk (i := 1) b17 rfl).1
  have c138 := (blk (i := 0) b41 rfl).1
  have c139 := (blk (i := 1) b41 rfl).1
  have c140 := (blk (i := 0) b103 rfl).1
  have c141 := (blk (i := 1) b103 rfl).1
  go_wp2_with fail
  refine (heldIntS_any n11 (1) d37 G35 w124 o74.ints (by omega)).mono ?_
  rintro e w142 ⟨rfl, rfl⟩
  clear c134 c135 c136 c137 c138 c139 c140 c141
  have c143 := (blk (i := 0) b4 rfl).1
  have c144 := (blk (i := 1) b4 rfl).1
  have c145 := (blk (i := 0) b17 rfl).1
  have c146 := (blk (i := 1) b17 rfl).1
  have c147 := (blk (i := 0) b41 rfl).1
  have c148 := (blk (i := 1) b41 rfl).1
  have c149 := (blk (i := 0) b103 rfl).1
  have c150 := (blk (i := 1) b103 rfl).1
  go_wp2_with fail
  go_ret
  exact ⟨by first | rfl | simp, low⟩
end Go.Proofs.Ytcjgoonkdjaccaa
