/- The law FnExactStateNew: the walk. -/
import Derived.Test.YtlaidjibcpfnjaaProg
import Derived.Test.YtlaidjibcpfnjaaB1
import Derived.Test.YtlaidjibcpfnjaaB2
import Derived.Test.YtlaidjibcpfnjaaSState
import Derived.Test.YtlaidjibcpfnjaaRunE
namespace Go.Proofs.Ytlaidjibcpfnjaa
open Go Go.RowKit
set_option maxRecDepth 100000 in
set_option maxHeartbeats 2000000 in
theorem FnExactStateNew_walk  (w : World)  :
    Calls Try.prog 7 #[] w fun e w' => e = .returned (.bool true) ∧ Below w.heap.size w w' := by
  have low : Below w.heap.size w w := Below.refl _ _
  go_enter Try.func7, Try.ntmps7
  go_wp2_with fail
  obtain ⟨R0, hR0, bR0⟩ : ∃ r : List Int, List.replicate 8 0 = r ∧ r.length ≤ 1900000 := ⟨_, rfl, by simp⟩
  obtain ⟨R1, hR1, bR1⟩ : ∃ r : List Int, [] = r ∧ r.length ≤ 1900000 := ⟨_, rfl, by simp⟩
  have E := Lib.hid (show ∀ w e w', Post_State (List.replicate 8 0) ([]) w e w' → Post_State R0 R1 w e w' from by subst hR0 hR1; intro _ _ _ h; exact h)
  clear hR0 hR1
  go_wp2_with fail
  refine (ex_spec_StateNew  w ).mono ?_
  intro e w1 h
  obtain ⟨G2, G5, n3, n6, d4, d7, rfl, o8, hb⟩ := E.out _ _ _ h
  clear h
  replace low := low.trans (hb.mono low.size)
  have q9 := hb.size
  clear hb
  have L10 := Lib.hid (o8.o0.len1)
  have bnL10 : n3 ≤ 1900000 := by rw [← L10.out]; exact bR0
  have L11 := Lib.hid (o8.o1.len1)
  have bnL11 : n6 ≤ 1900000 := by rw [← L11.out]; exact bR1
  replace o8 := o8.alloc (.cells #[.slice G2 n3 d4, .slice G5 n6 d7] 38)
  replace low := low_alloc low (.cells #[.slice G2 n3 d4, .slice G5 n6 d7] 38)
  have b12 := heap_alloc_new w1 (.cells #[.slice G2 n3 d4, .slice G5 n6 d7] 38)
  have q13 := heap_lt b12
  have c14 := (blk (i := 0) b12 rfl).1
  have c15 := (blk (i := 1) b12 rfl).1
  go_wp2_with fail
  generalize hg : (w1.alloc (.cells #[.slice G2 n3 d4, .slice G5 n6 d7] 38)) = w16 at *
  clear hg
  clear c14 c15
  have c18 := (blk (i := 0) b12 rfl).1
  have c19 := (blk (i := 1) b12 rfl).1
  go_wp2_with fail
  refine (ex_impl_StateNew  w16 ).mono ?_
  intro e w17 h
  obtain ⟨G20, G23, n21, n24, d22, d25, rfl, o26, hb⟩ := E.out _ _ _ h
  clear h
  replace o8 := o8.below hb
  replace b12 := heap_below b12 hb
  replace low := low.trans (hb.mono low.size)
  have q27 := hb.size
  clear hb
  have hl28 := o26.o0.len1
  obtain rfl : n3 = n21 := by rw [← hl28, L10.out]
  clear hl28
  have hl29 := o26.o1.len1
  obtain rfl : n6 = n24 := by rw [← hl29, L11.out]
  clear hl29
  replace o8 := o8.alloc (.cells #[.slice G20 n3 d22, .slice G23 n6 d25] 38)
  replace b12 := heap_alloc b12 (.cells #[.slice G20 n3 d22, .slice G23 n6 d25] 38)
  replace o26 := o26.alloc (.cells #[.slice G20 n3 d22, .slice G23 n6 d25] 38)
  replace low := low_alloc low (.cells #[.slice G20 n3 d22, .slice G23 n6 d25] 38)
  have b30 := heap_alloc_new w17 (.cells #[.slice G20 n3 d22, .slice G23 n6 d25] 38)
  have q31 := heap_lt b30
  clear c18 c19
  have c32 := (blk (i := 0) b12 rfl).1
  have c33 := (blk (i := 1) b12 rfl).1
  have c34 := (blk (i := 0) b30 rfl).1
  have c35 := (blk (i := 1) b30 rfl).1
  go_wp2_with fail
  generalize hg : (w17.alloc (.cells #[.slice G20 n3 d22, .slice G23 n6 d25] 38)) = w36 at *
  clear hg
  clear c32 c33 c34 c35
  have c38 := (blk (i := 0) b12 rfl).1
  have c39 := (blk (i := 1) b12 rfl).1
  have c40 := (blk (i := 0) b30 rfl).1
  have c41 := (blk (i := 1) b30 rfl).1
  go_wp2_with fail
  refine (eqState_same G20 G23 d22 d25 G2 G5 d4 d7 n3 n6 R0 R1 w36 o26.o0.ints o8.o0.ints L10.out (by omega) o26.o1.ints o8.o1.ints L11.out (by omega)).mono ?_
  rintro e w37 ⟨rfl, hb⟩
  replace o8 := o8.below hb
  replace b12 := heap_below b12 hb
  replace o26 := o26.below hb
  replace b30 := heap_below b30 hb
  replace low := low.trans (hb.mono low.size)
  have q42 := hb.size
  clear hb
  clear c38 c39 c40 c41
  have c44 := (blk (i := 0) b12 rfl).1
  have c45 := (blk (i := 1) b12 rfl).1
  have c46 := (blk (i := 0) b30 rfl).1
  have c47 := (blk (i := 1) b30 rfl).1
  go_wp2_with fail
  refine (markState_own w16.heap.size (w17.heap.size) (1) G20 G23 d22 d25 n3 n6 R0 R1 w37 o26 (by omega) (by omega)).mono ?_
  rintro e w43 ⟨rfl, o48, mg⟩
  clear o26
  replace o8 := o8.mid mg (by omega)
  replace b12 := mg.heap b12 (by omega)
  replace b30 := mg.heap b30 (by omega)
  replace low := mg.below low (by omega) low.size
  have q49 := mg.size
  clear mg
  clear c44 c45 c46 c47
  have c50 := (blk (i := 0) b12 rfl).1
  have c51 := (blk (i := 1) b12 rfl).1
  have c52 := (blk (i := 0) b30 rfl).1
  have c53 := (blk (i := 1) b30 rfl).1
  go_wp2_with fail
  refine (heldState_any (1) G20 G23 d22 d25 n3 n6 w43 o48.o0.ints o48.o1.ints (by omega)).mono ?_
  rintro e w54 ⟨rfl, hb⟩
  replace o8 := o8.below hb
  replace b12 := heap_below b12 hb
  replace b30 := heap_below b30 hb
  replace o48 := o48.below hb
  replace low := low.trans (hb.mono low.size)
  have q55 := hb.size
  clear hb
  clear c50 c51 c52 c53
  have c57 := (blk (i := 0) b12 rfl).1
  have c58 := (blk (i := 1) b12 rfl).1
  have c59 := (blk (i := 0) b30 rfl).1
  have c60 := (blk (i := 1) b30 rfl).1
  go_wp2_with fail
  refine (ex_impl_StateNew  w54 ).mono ?_
  intro e w56 h
  obtain ⟨G61, G64, n62, n65, d63, d66, rfl, o67, hb⟩ := E.out _ _ _ h
  clear h
  replace o8 := o8.below hb
  replace b12 := heap_below b12 hb
  replace b30 := heap_below b30 hb
  replace o48 := o48.below hb
  replace low := low.trans (hb.mono low.size)
  have q68 := hb.size
  clear hb
  have hl69 := o67.o0.len1
  obtain rfl : n3 = n62 := by rw [← hl69, L10.out]
  clear hl69
  have hl70 := o67.o1.len1
  obtain rfl : n6 = n65 := by rw [← hl70, L11.out]
  clear hl70
  replace o8 := o8.alloc (.cells #[.slice G61 n3 d63, .slice G64 n6 d66] 38)
  replace b12 := heap_alloc b12 (.cells #[.slice G61 n3 d63, .slice G64 n6 d66] 38)
  replace b30 := heap_alloc b30 (.cells #[.slice G61 n3 d63, .slice G64 n6 d66] 38)
  replace o48 := o48.alloc (.cells #[.slice G61 n3 d63, .slice G64 n6 d66] 38)
  replace o67 := o67.alloc (.cells #[.slice G61 n3 d63, .slice G64 n6 d66] 38)
  replace low := low_alloc low (.cells #[.slice G61 n3 d63, .slice G64 n6 d66] 38)
  have b71 := heap_alloc_new w56 (.cells #[.slice G61 n3 d63, .slice G64 n6 d66] 38)
  have q72 := heap_lt b71
  clear c57 c58 c59 c60
  have c73 := (blk (i := 0) b12 rfl).1
  have c74 := (blk (i := 1) b12 rfl).1
  have c75 := (blk (i := 0) b30 rfl).1
  have c76 := (blk (i := 1) b30 rfl).1
  have c77 := (blk (i := 0) b71 rfl).1
  have c78 := (blk (i := 1) b71 rfl).1
  go_wp2_with fail
  generalize hg : (w56.alloc (.cells #[.slice G61 n3 d63, .slice G64 n6 d66] 38)) = w79 at *
  clear hg
  clear c73 c74 c75 c76 c77 c78
  have c81 := (blk (i := 0) b12 rfl).1
  have c82 := (blk (i := 1) b12 rfl).1
  have c83 := (blk (i := 0) b30 rfl).1
  have c84 := (blk (i := 1) b30 rfl).1
  have c85 := (blk (i := 0) b71 rfl).1
  have c86 := (blk (i := 1) b71 rfl).1
  go_wp2_with fail
  refine (eqState_same G61 G64 d63 d66 G2 G5 d4 d7 n3 n6 R0 R1 w79 o67.o0.ints o8.o0.ints L10.out (by omega) o67.o1.ints o8.o1.ints L11.out (by omega)).mono ?_
  rintro e w80 ⟨rfl, hb⟩
  replace o8 := o8.below hb
  replace b12 := heap_below b12 hb
  replace b30 := heap_below b30 hb
  replace o48 := o48.below hb
  replace o67 := o67.below hb
  replace b71 := heap_below b71 hb
  replace low := low.trans (hb.mono low.size)
  have q87 := hb.size
  clear hb
  clear c81 c82 c83 c84 c85 c86
  have c88 := (blk (i := 0) b12 rfl).1
  have c89 := (blk (i := 1) b12 rfl).1
  have c90 := (blk (i := 0) b30 rfl).1
  have c91 := (blk (i := 1) b30 rfl).1
  have c92 := (blk (i := 0) b71 rfl).1
  have c93 := (blk (i := 1) b71 rfl).1
  go_wp2_with fail
  refine (heldState_any (1) G20 G23 d22 d25 n3 n6 w80 o48.o0.ints o48.o1.ints (by omega)).mono ?_
  rintro e w94 ⟨rfl, hb⟩
  replace o8 := o8.below hb
  replace b12 := heap_below b12 hb
  replace b30 := heap_below b30 hb
  replace o48 := o48.below hb
  replace o67 := o67.below hb
  replace b71 := heap_below b71 hb
  replace low := low.trans (hb.mono low.size)
  have q95 := hb.size
  clear hb
  clear c88 c89 c90 c91 c92 c93
  have c96 := (blk (i := 0) b12 rfl).1
  have c97 := (blk (i := 1) b12 rfl).1
  have c98 := (blk (i := 0) b30 rfl).1
  have c99 := (blk (i := 1) b30 rfl).1
  have c100 := (blk (i := 0) b71 rfl).1
  have c101 := (blk (i := 1) b71 rfl).1
  go_wp2_with fail
  go_ret
  exact ⟨by first | rfl | simp, low⟩
end Go.Proofs.Ytlaidjibcpfnjaa
