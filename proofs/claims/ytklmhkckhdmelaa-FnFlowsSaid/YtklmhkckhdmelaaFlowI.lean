/- FlowStep: the program's. No condition. -/
import Derived.Test.YtklmhkckhdmelaaProg
import Derived.Test.YtklmhkckhdmelaaFlowU
import Derived.Test.YtklmhkckhdmelaaSFlow
import Derived.Test.YtklmhkckhdmelaaCloneI
import Derived.Test.YtklmhkckhdmelaaPg8
import Derived.Laws.CopyOwn
namespace Go.Proofs.Ytklmhkckhdmelaa
open Go Go.RowKit
/-- The three boxes of FlowStep: the flow, the statement, the result. -/
structure Bx3F (w wr : World) (fs ss rs : Array Value) : Prop where
  f : wr.heap[w.heap.size]? = some (.cells fs 32 (0, 0))
  s : wr.heap[w.heap.size + 1]? = some (.cells ss 43 (0, 0))
  r : wr.heap[w.heap.size + 2]? = some (.cells rs 32 (0, 0))
  low : Below w.heap.size w wr
theorem Bx3F.start (w : World) (fs ss rs : Array Value) : Bx3F w (((w.alloc (.cells fs 32)).alloc (.cells ss 43)).alloc (.cells rs 32)) fs ss rs := by
  have b := Bx3.start w 32 fs 43 ss 32 rs
  exact ⟨b.two.arg, b.two.res, b.out, b.two.low⟩
theorem Bx3F.next {w wr w1 : World} {fs ss rs : Array Value} (h : Bx3F w wr fs ss rs) (hb : Below wr.heap.size wr w1) : Bx3F w w1 fs ss rs :=
  ⟨heap_below h.f hb, heap_below h.s hb, heap_below h.r hb, h.low.trans (hb.mono h.low.size)⟩
theorem Bx3F.lt {w wr : World} {fs ss rs : Array Value} (h : Bx3F w wr fs ss rs) : w.heap.size + 2 < wr.heap.size := heap_lt h.r
theorem Bx3F.far {w wr : World} {fs ss rs : Array Value} (h : Bx3F w wr fs ss rs) {g : Nat} (hg : w.heap.size + 2 < g) (i : Nat) (v : Value) : Bx3F w (wr.setCell ⟨g, i, none⟩ v) fs ss rs :=
  ⟨heap_far h.f (by simp; omega) v, heap_far h.s (by simp; omega) v, heap_far h.r (by simp; omega) v, h.low.setCell (by simp; omega) _⟩
theorem Bx3F.drew {w wr : World} {fs ss rs : Array Value} (h : Bx3F w wr fs ss rs) : Bx3F w wr.drew fs ss rs := ⟨h.f, h.s, h.r, h.low.drew⟩
theorem Bx3F.grown {w wr w1 : World} {fs ss rs : Array Value} {row : Option Nat} (h : Bx3F w wr fs ss rs) (hg : wr.grownBy w1 row) (hr : ∀ k, row = some k → w.heap.size + 2 < k) : Bx3F w w1 fs ss rs :=
  ⟨heap_grown h.f hg (fun e => by have := hr _ e; omega), heap_grown h.s hg (fun e => by have := hr _ e; omega), heap_grown h.r hg (fun e => by have := hr _ e; omega), h.low.grown hg h.low.size (fun k e => by have := hr k e; omega)⟩
/-- The result is stored and handed back. -/
theorem flow_out {w wr : World} {fs ss : Array Value} {u v : Value} {A0 A1 : Option Addr} {n0 n1 c0 c1 lo hi : Nat} {z0 z1 : List Int} (h : Bx3F w wr fs ss #[u, v]) (o : OwnFlow lo hi wr (.slice A0 n0 c0) (.slice A1 n1 c1) n0 n1 z0 z1)
    (hlo : w.heap.size + 2 < lo) (hhi : hi ≤ wr.heap.size) (tmps : Array Value) (ht : tmps.getD 4 undef = .pointer (some ⟨w.heap.size + 2, 0, none⟩)) :
    bodyPost Try.prog Try.f23 (Post_Flow z0 z1 w) Exit.ret { tmps := tmps, defers := [] } ((wr.setCell ⟨w.heap.size + 2, 0, none⟩ (.slice A0 n0 c0)).setCell ⟨w.heap.size + 2, 1, none⟩ (.slice A1 n1 c1)) := by
  have b2 := heap_set (i := 1) (heap_set (i := 0) h.r (.slice A0 n0 c0)) (.slice A1 n1 c1)
  have o2 := (o.setFar (g := w.heap.size + 2) (i := 0) hlo (.slice A0 n0 c0)).setFar (g := w.heap.size + 2) (i := 1) hlo (.slice A1 n1 c1)
  refine bodyPost_ret (results_cell_row (P := Try.prog) rfl _ _ (w.heap.size + 2) 32 _ (0, 0) _ ht b2 Try.underlying32 rfl (by kernel_rfl)) rfl ?_
  exact ⟨_, _, _, _, _, _, rfl, o2.wide (by omega) (by simpa using hhi), (h.low.setCell (by simp) _).setCell (by simp) _⟩
set_option maxRecDepth 100000 in
theorem impl_FlowStep_no (A0 A1 : Option Addr) (c0 c1 n0 n1 : Nat) (rs os : List Int) (op d a b c n : Int) (w : World) (h0 : Ints w A0 rs) (l0 : rs.length = n0) (m0 : n0 ≤ 2000000) (h1 : Ints w A1 os) (l1 : os.length = n1) (m1 : n1 ≤ 2000000) (hok : ¬ okI op d a b c n) :
    Calls Try.prog 23 #[.agg #[.slice A0 n0 c0, .slice A1 n1 c1], .agg #[.int .i64 op, .int .i64 d, .int .i64 a, .int .i64 b, .int .i64 c, .int .i64 n]] w (Post_Flow rs os w) := by
  have k0 := Bx3F.start w #[.slice A0 n0 c0, .slice A1 n1 c1] #[.int .i64 op, .int .i64 d, .int .i64 a, .int .i64 b, .int .i64 c, .int .i64 n] #[.slice none 0 0, .slice none 0 0]
  have cN := impl_newStatement op d a b c n
  rw [show newV op d a b c n = none from if_neg hok] at cN
  simp only [usedV] at cN
  have L0 := Lib.hid l0
  have L1 := Lib.hid l1
  have i0 := h0.bound
  have i1 := h1.bound
  clear l0 l1 h0 h1 hok
  go_enter Try.func23, Try.ntmps23
  go_wp2_with fail
  generalize hw0 : ((w.alloc (.cells #[.slice A0 n0 c0, .slice A1 n1 c1] 32)).alloc (.cells #[.int .i64 op, .int .i64 d, .int .i64 a, .int .i64 b, .int .i64 c, .int .i64 n] 43)).alloc (.cells #[.slice none 0 0, .slice none 0 0] 32) = w0 at *
  clear hw0
  refine (impl_CloneI A1 n1 c1 os w0 ((i1.below k0.low).ints k0.low.size) L1.out m1).mono ?_
  rintro e w1 ⟨B1, q1, d1, rfl, e1, o1, hb1⟩
  obtain rfl : q1 = n1 := by rw [← e1, L1.out]
  have s1 := k0.lt
  have t1 := hb1.size
  replace k0 := k0.next hb1
  clear hb1 e1
  obtain ⟨x0, _⟩ := blk (i := 0) k0.s rfl
  obtain ⟨x1, _⟩ := blk (i := 1) k0.s rfl
  obtain ⟨x2, _⟩ := blk (i := 2) k0.s rfl
  obtain ⟨x3, _⟩ := blk (i := 3) k0.s rfl
  obtain ⟨x4, _⟩ := blk (i := 4) k0.s rfl
  obtain ⟨x5, _⟩ := blk (i := 5) k0.s rfl
  go_wp2_with fail
  refine (cN w1).mono ?_
  rintro e w2 ⟨rfl, hb2⟩
  have t2 := hb2.size
  replace k0 := k0.next hb2
  replace o1 := o1.below hb2
  clear hb2 x0 x1 x2 x3 x4 x5
  obtain ⟨x0, _⟩ := blk (i := 0) k0.f rfl
  go_wp2_with fail
  refine (impl_CloneI A0 n0 c0 rs w2 ((i0.below k0.low).ints k0.low.size) L0.out m0).mono ?_
  rintro e w3 ⟨B0, q0, d0, rfl, e0, o0, hb3⟩
  obtain rfl : q0 = n0 := by rw [← e0, L0.out]
  have t3 := hb3.size
  replace k0 := k0.next hb3
  replace o1 := o1.below hb3
  clear hb3 e0 x0
  obtain ⟨y0, f0⟩ := blk (i := 0) k0.r rfl
  obtain ⟨y1, f1⟩ := blk (i := 1) k0.r rfl
  have K := Lib.hid k0
  have O0 := Lib.hid o0
  have O1 := Lib.hid o1
  clear k0 o0 o1 i0 i1
  go_wp2_with fail
  exact flow_out (lo := w0.heap.size) K.out ⟨O0.out.any.wide (by omega) (Nat.le_refl _), O1.out.any.wide (by omega) (by omega), (O1.out.any.apart_of O0.out.any (by omega)).symm⟩ (by omega) (Nat.le_refl _) _ rfl
set_option maxRecDepth 100000 in
theorem impl_FlowStep_len (A0 A1 : Option Addr) (c0 c1 n0 n1 : Nat) (rs os : List Int) (op d a b c n : Int) (w : World) (h0 : Ints w A0 rs) (l0 : rs.length = n0) (m0 : n0 ≤ 2000000) (h1 : Ints w A1 os) (l1 : os.length = n1) (m1 : n1 ≤ 2000000) (hok : okI op d a b c n) (h8 : rs.length ≠ 8) :
    Calls Try.prog 23 #[.agg #[.slice A0 n0 c0, .slice A1 n1 c1], .agg #[.int .i64 op, .int .i64 d, .int .i64 a, .int .i64 b, .int .i64 c, .int .i64 n]] w (Post_Flow rs os w) := by
  have k0 := Bx3F.start w #[.slice A0 n0 c0, .slice A1 n1 c1] #[.int .i64 op, .int .i64 d, .int .i64 a, .int .i64 b, .int .i64 c, .int .i64 n] #[.slice none 0 0, .slice none 0 0]
  have cN := impl_newStatement op d a b c n
  rcases new_any op d a b c n with ⟨hno, -⟩ | ⟨t, -, e, -⟩
  · exact absurd hok hno
  rw [e] at cN
  simp only [usedV] at cN
  have hne : ¬ (n0 : Int) = 8 := by omega
  have L0 := Lib.hid l0
  have L1 := Lib.hid l1
  have i0 := h0.bound
  have i1 := h1.bound
  generalize t.v = tv at *
  clear l0 l1 h0 h1 hok h8 e
  go_enter Try.func23, Try.ntmps23
  go_wp2_with fail
  generalize hw0 : ((w.alloc (.cells #[.slice A0 n0 c0, .slice A1 n1 c1] 32)).alloc (.cells #[.int .i64 op, .int .i64 d, .int .i64 a, .int .i64 b, .int .i64 c, .int .i64 n] 43)).alloc (.cells #[.slice none 0 0, .slice none 0 0] 32) = w0 at *
  clear hw0
  refine (impl_CloneI A1 n1 c1 os w0 ((i1.below k0.low).ints k0.low.size) L1.out m1).mono ?_
  rintro e w1 ⟨B1, q1, d1, rfl, e1, o1, hb1⟩
  obtain rfl : q1 = n1 := by rw [← e1, L1.out]
  have s1 := k0.lt
  have t1 := hb1.size
  replace k0 := k0.next hb1
  clear hb1 e1
  obtain ⟨x0, _⟩ := blk (i := 0) k0.s rfl
  obtain ⟨x1, _⟩ := blk (i := 1) k0.s rfl
  obtain ⟨x2, _⟩ := blk (i := 2) k0.s rfl
  obtain ⟨x3, _⟩ := blk (i := 3) k0.s rfl
  obtain ⟨x4, _⟩ := blk (i := 4) k0.s rfl
  obtain ⟨x5, _⟩ := blk (i := 5) k0.s rfl
  go_wp2_with fail
  refine (cN w1).mono ?_
  rintro e w2 ⟨rfl, hb2⟩
  have t2 := hb2.size
  replace k0 := k0.next hb2
  replace o1 := o1.below hb2
  clear hb2 x0 x1 x2 x3 x4 x5
  obtain ⟨x0, _⟩ := blk (i := 0) k0.f rfl
  go_wp2_with fail
  refine (impl_CloneI A0 n0 c0 rs w2 ((i0.below k0.low).ints k0.low.size) L0.out m0).mono ?_
  rintro e w3 ⟨B0, q0, d0, rfl, e0, o0, hb3⟩
  obtain rfl : q0 = n0 := by rw [← e0, L0.out]
  have t3 := hb3.size
  replace k0 := k0.next hb3
  replace o1 := o1.below hb3
  clear hb3 e0 x0
  obtain ⟨y0, f0⟩ := blk (i := 0) k0.r rfl
  obtain ⟨y1, f1⟩ := blk (i := 1) k0.r rfl
  have K := Lib.hid k0
  have O0 := Lib.hid o0
  have O1 := Lib.hid o1
  clear k0 o0 o1 i0 i1
  go_wp2_with fail
  exact flow_out (lo := w0.heap.size) K.out ⟨O0.out.any.wide (by omega) (Nat.le_refl _), O1.out.any.wide (by omega) (by omega), (O1.out.any.apart_of O0.out.any (by omega)).symm⟩ (by omega) (Nat.le_refl _) _ rfl
end Go.Proofs.Ytklmhkckhdmelaa
