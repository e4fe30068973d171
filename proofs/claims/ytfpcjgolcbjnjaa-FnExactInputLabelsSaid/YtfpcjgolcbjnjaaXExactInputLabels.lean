/- The law FnExactInputLabels: the walk. -/
import Derived.Test.YtfpcjgolcbjnjaaProg
import Derived.Test.YtfpcjgolcbjnjaaB1
import Derived.Test.YtfpcjgolcbjnjaaGbX
import Derived.Test.YtfpcjgolcbjnjaaTapeX
namespace Go.Proofs.Ytfpcjgolcbjnjaa
open Go Go.RowKit
set_option maxRecDepth 100000 in
set_option maxHeartbeats 2000000 in
theorem FnExactInputLabels_walk (a0_0 : Int) (a0_1 : Int) (A1 : Option Addr) (n1 c1 : Nat) (z1 : List Int) (w : World) (_h0_0 : (Lit.int .i64 a0_0).wf = true) (_h0_1 : (Lit.int .i64 a0_1).wf = true) (h1 : Ints w A1 z1) (l1 : z1.length = n1) (m1 : n1 ≤ 9223372036854775807) :
    Calls Try.prog 9 #[.agg #[.int .i64 a0_0, .int .i64 a0_1], .slice A1 n1 c1] w fun e w' => e = .returned (.bool true) ∧ Below w.heap.size w w' := by
  have low : Below w.heap.size w (w.alloc (.cells #[.int .i64 a0_0, .int .i64 a0_1] 47)) := (low_alloc (Below.refl _ _) _)
  by_cases hn1 : 1048576 < n1
  · clear h1 l1
    go_enter Try.func9, Try.ntmps9
    go_wp2_with fail
    go_ret
    exact ⟨rfl, low⟩
  have mm1 : n1 ≤ 1048576 := by omega
  clear hn1 m1
  have L1 := Lib.hid l1
  have i1 := h1.bound.below low
  clear h1 l1
  have b0 := new_at w (.cells #[.int .i64 a0_0, .int .i64 a0_1] 47) (w.heap.size) (by simp)
  go_enter Try.func9, Try.ntmps9
  have c1 := (blk (i := 0) b0 rfl).1
  have c2 := (blk (i := 1) b0 rfl).1
  go_wp2_with fail
  generalize hw0 : (w.alloc (.cells #[.int .i64 a0_0, .int .i64 a0_1] 47)) = v0 at *
  clear hw0
  have q0 := low.size
  have q00 := heap_lt b0
  obtain ⟨R0, hR0, bR0⟩ : ∃ r : List Int, inI a0_0 a0_1 z1 = r ∧ r.length ≤ 1900000 := ⟨_, rfl, by have := inI_length a0_0 a0_1 z1; omega⟩
  have E := Lib.hid (show ∀ w e w', Post_A (inI a0_0 a0_1 z1) w e w' → Post_A R0 w e w' from by subst hR0; intro _ _ _ h; exact h)
  clear hR0
  clear c1 c2
  have c3 := (blk (i := 0) b0 rfl).1
  have c4 := (blk (i := 1) b0 rfl).1
  go_wp2_with fail
  refine (toTape_any a0_0 a0_1 v0).mono ?_
  rintro e w5 ⟨rfl, hb⟩
  replace b0 := heap_below b0 hb
  replace i1 := i1.below (hb.mono low.size)
  replace low := low.trans (hb.mono low.size)
  have q6 := hb.size
  clear hb
  clear c3 c4
  have c9 := (blk (i := 0) b0 rfl).1
  have c10 := (blk (i := 1) b0 rfl).1
  go_wp2_with fail
  refine (toIntS_ownA A1 n1 c1 z1 w5 (i1.ints low.size) L1.out (by omega)).mono ?_
  rintro e w11 ⟨X7, rfl, o8, hb⟩
  replace b0 := heap_below b0 hb
  replace i1 := i1.below (hb.mono low.size)
  replace low := low.trans (hb.mono low.size)
  have q12 := hb.size
  clear hb
  clear c9 c10
  have c14 := (blk (i := 0) b0 rfl).1
  have c15 := (blk (i := 1) b0 rfl).1
  go_wp2_with fail
  refine (ex_spec_InputLabels a0_0 a0_1 X7 n1 n1 z1 w11 (o8.ints) L1.out (by omega)).mono ?_
  intro e w13 h
  obtain ⟨G16, n17, d18, rfl, o19, hb⟩ := E.out _ _ _ h
  clear h
  replace b0 := heap_below b0 hb
  replace i1 := i1.below (hb.mono low.size)
  replace o8 := o8.below hb
  replace low := low.trans (hb.mono low.size)
  have q20 := hb.size
  clear hb
  clear o8
  have L21 := Lib.hid (o19.len1)
  have bnL21 : n17 ≤ 1900000 := by rw [← L21.out]; exact bR0
  clear c14 c15
  have c24 := (blk (i := 0) b0 rfl).1
  have c25 := (blk (i := 1) b0 rfl).1
  go_wp2_with fail
  refine (toIntS_ownA A1 n1 c1 z1 w13 (i1.ints low.size) L1.out (by omega)).mono ?_
  rintro e w26 ⟨X22, rfl, o23, hb⟩
  replace b0 := heap_below b0 hb
  replace i1 := i1.below (hb.mono low.size)
  replace o19 := o19.below hb
  replace low := low.trans (hb.mono low.size)
  have q27 := hb.size
  clear hb
  clear c24 c25
  have c28 := (blk (i := 0) b0 rfl).1
  have c29 := (blk (i := 1) b0 rfl).1
  go_wp2_with fail
  refine (toTape_any a0_0 a0_1 w26).mono ?_
  rintro e w30 ⟨rfl, hb⟩
  replace b0 := heap_below b0 hb
  replace i1 := i1.below (hb.mono low.size)
  replace o19 := o19.below hb
  replace o23 := o23.below hb
  replace low := low.trans (hb.mono low.size)
  have q31 := hb.size
  clear hb
  clear c28 c29
  have c33 := (blk (i := 0) b0 rfl).1
  have c34 := (blk (i := 1) b0 rfl).1
  go_wp2_with fail
  refine (ex_impl_InputLabels a0_0 a0_1 X22 n1 n1 z1 w30 (o23.ints) L1.out (by omega)).mono ?_
  intro e w32 h
  obtain ⟨G35, n36, d37, rfl, o38, hb⟩ := E.out _ _ _ h
  clear h
  replace b0 := heap_below b0 hb
  replace i1 := i1.below (hb.mono low.size)
  replace o19 := o19.below hb
  replace o23 := o23.below hb
  replace low := low.trans (hb.mono low.size)
  have q39 := hb.size
  clear hb
  have hl40 := o38.len1
  obtain rfl : n17 = n36 := by rw [← hl40, L21.out]
  clear hl40
  clear c33 c34
  have c42 := (blk (i := 0) b0 rfl).1
  have c43 := (blk (i := 1) b0 rfl).1
  go_wp2_with fail
  refine (eqIntS_same n17 n17 d37 d18 G35 G16 R0 R0 w32 o38.ints o19.ints rfl L21.out L21.out (by omega)).mono ?_
  rintro e w41 ⟨rfl, hb⟩
  replace b0 := heap_below b0 hb
  replace i1 := i1.below (hb.mono low.size)
  replace o19 := o19.below hb
  replace o23 := o23.below hb
  replace o38 := o38.below hb
  replace low := low.trans (hb.mono low.size)
  have q44 := hb.size
  clear hb
  clear c42 c43
  have c47 := (blk (i := 0) b0 rfl).1
  have c48 := (blk (i := 1) b0 rfl).1
  go_wp2_with fail
  refine (toIntS_ownA A1 n1 c1 z1 w41 (i1.ints low.size) L1.out (by omega)).mono ?_
  rintro e w49 ⟨X45, rfl, o46, hb⟩
  replace b0 := heap_below b0 hb
  replace i1 := i1.below (hb.mono low.size)
  replace o19 := o19.below hb
  replace o23 := o23.below hb
  replace o38 := o38.below hb
  replace low := low.trans (hb.mono low.size)
  have q50 := hb.size
  clear hb
  clear c47 c48
  have c52 := (blk (i := 0) b0 rfl).1
  have c53 := (blk (i := 1) b0 rfl).1
  go_wp2_with fail
  refine (eqIntS_same n1 n1 n1 n1 X22 X45 z1 z1 w49 o23.ints o46.ints rfl L1.out L1.out (by omega)).mono ?_
  rintro e w51 ⟨rfl, hb⟩
  replace b0 := heap_below b0 hb
  replace i1 := i1.below (hb.mono low.size)
  replace o19 := o19.below hb
  replace o23 := o23.below hb
  replace o38 := o38.below hb
  replace o46 := o46.below hb
  replace low := low.trans (hb.mono low.size)
  have q54 := hb.size
  clear hb
  clear o46
  clear c52 c53
  have c56 := (blk (i := 0) b0 rfl).1
  have c57 := (blk (i := 1) b0 rfl).1
  go_wp2_with fail
  refine (markIntS_ownA _ _ n1 (1) _ z1 w51 o23 (by omega)).mono ?_
  rintro e w55 ⟨rfl, o58, hg⟩
  have mg := Mid.of_grown (lo := w13.heap.size) (hi := w26.heap.size) hg (fun k e => o23.ltB e)
  clear o23 hg
  replace b0 := mg.heap b0 (by omega)
  replace i1 := i1.mid mg (by omega) low.size
  replace o19 := o19.mid mg (by omega)
  replace o38 := o38.mid mg (by omega)
  replace low := mg.below low (by omega) low.size
  have q59 := mg.size
  clear mg
  clear o58
  clear c56 c57
  have c61 := (blk (i := 0) b0 rfl).1
  have c62 := (blk (i := 1) b0 rfl).1
  go_wp2_with fail
  refine (eqIntS_same n17 n17 d37 d18 G35 G16 R0 R0 w55 o38.ints o19.ints rfl L21.out L21.out (by omega)).mono ?_
  rintro e w60 ⟨rfl, hb⟩
  replace b0 := heap_below b0 hb
  replace i1 := i1.below (hb.mono low.size)
  replace o19 := o19.below hb
  replace o38 := o38.below hb
  replace low := low.trans (hb.mono low.size)
  have q63 := hb.size
  clear hb
  clear c61 c62
  have c65 := (blk (i := 0) b0 rfl).1
  have c66 := (blk (i := 1) b0 rfl).1
  go_wp2_with fail
  refine (markIntS_ownA _ _ n17 (1) _ R0 w60 o38 (by omega)).mono ?_
  rintro e w64 ⟨rfl, o67, hg⟩
  have mg := Mid.of_grown (lo := w30.heap.size) (hi := w32.heap.size) hg (fun k e => o38.ltB e)
  clear o38 hg
  replace b0 := mg.heap b0 (by omega)
  replace i1 := i1.mid mg (by omega) low.size
  replace o19 := o19.mid mg (by omega)
  replace low := mg.below low (by omega) low.size
  have q68 := mg.size
  clear mg
  clear c65 c66
  have c69 := (blk (i := 0) b0 rfl).1
  have c70 := (blk (i := 1) b0 rfl).1
  go_wp2_with fail
  refine (heldIntS_any n17 (1) d37 G35 w64 o67.ints (by omega)).mono ?_
  rintro e w71 ⟨rfl, rfl⟩
  clear c69 c70
  have c72 := (blk (i := 0) b0 rfl).1
  have c73 := (blk (i := 1) b0 rfl).1
  go_wp2_with fail
  refine (toTape_any a0_0 a0_1 w64).mono ?_
  rintro e w74 ⟨rfl, hb⟩
  replace b0 := heap_below b0 hb
  replace i1 := i1.below (hb.mono low.size)
  replace o19 := o19.below hb
  replace o67 := o67.below hb
  replace low := low.trans (hb.mono low.size)
  have q75 := hb.size
  clear hb
  clear c72 c73
  have c78 := (blk (i := 0) b0 rfl).1
  have c79 := (blk (i := 1) b0 rfl).1
  go_wp2_with fail
  refine (toIntS_ownA A1 n1 c1 z1 w74 (i1.ints low.size) L1.out (by omega)).mono ?_
  rintro e w80 ⟨X76, rfl, o77, hb⟩
  replace b0 := heap_below b0 hb
  replace i1 := i1.below (hb.mono low.size)
  replace o19 := o19.below hb
  replace o67 := o67.below hb
  replace low := low.trans (hb.mono low.size)
  have q81 := hb.size
  clear hb
  clear c78 c79
  have c83 := (blk (i := 0) b0 rfl).1
  have c84 := (blk (i := 1) b0 rfl).1
  go_wp2_with fail
  refine (ex_impl_InputLabels a0_0 a0_1 X76 n1 n1 z1 w80 (o77.ints) L1.out (by omega)).mono ?_
  intro e w82 h
  obtain ⟨G85, n86, d87, rfl, o88, hb⟩ := E.out _ _ _ h
  clear h
  replace b0 := heap_below b0 hb
  replace i1 := i1.below (hb.mono low.size)
  replace o19 := o19.below hb
  replace o67 := o67.below hb
  replace o77 := o77.below hb
  replace low := low.trans (hb.mono low.size)
  have q89 := hb.size
  clear hb
  clear o77
  have hl90 := o88.len1
  obtain rfl : n17 = n86 := by rw [← hl90, L21.out]
  clear hl90
  clear c83 c84
  have c92 := (blk (i := 0) b0 rfl).1
  have c93 := (blk (i := 1) b0 rfl).1
  go_wp2_with fail
  refine (eqIntS_same n17 n17 d87 d18 G85 G16 R0 R0 w82 o88.ints o19.ints rfl L21.out L21.out (by omega)).mono ?_
  rintro e w91 ⟨rfl, hb⟩
  replace b0 := heap_below b0 hb
  replace i1 := i1.below (hb.mono low.size)
  replace o19 := o19.below hb
  replace o67 := o67.below hb
  replace o88 := o88.below hb
  replace low := low.trans (hb.mono low.size)
  have q94 := hb.size
  clear hb
  clear c92 c93
  have c95 := (blk (i := 0) b0 rfl).1
  have c96 := (blk (i := 1) b0 rfl).1
  go_wp2_with fail
  refine (heldIntS_any n17 (1) d37 G35 w91 o67.ints (by omega)).mono ?_
  rintro e w97 ⟨rfl, rfl⟩
  clear c95 c96
  have c98 := (blk (i := 0) b0 rfl).1
  have c99 := (blk (i := 1) b0 rfl).1
  go_wp2_with fail
  go_ret
  exact ⟨by first | rfl | simp, low⟩
end Go.Proofs.Ytfpcjgolcbjnjaa
