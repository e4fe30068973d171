/- The law FnExactTapeList. -/
import Derived.Test.YtjfgninlnlhibaaProg
import Derived.Test.YtjfgninlnlhibaaTapeP
import Derived.Test.YtjfgninlnlhibaaTapeX
import Derived.Test.YtjfgninlnlhibaaIntsX
namespace Go.Proofs.Ytjfgninlnlhibaa
open Go Go.RowKit
theorem tlI_length (s a n k : Int) : (tlI s a n k).length ≤ 1000 := by
  unfold tlI
  split
  · rename_i h
    rw [tlN_length]
    have := h.2.2.2.1
    omega
  · simp
/-- What stays below block B: the argument's box, the model's tape in block g, the model's list. -/
structure Stays (B : Nat) (w wr : World) (T : TypeId) (x y : Value) (g : Nat) (T' : TypeId) (u v : Value) (A : Option Addr) (zs : List Int) : Prop where
  arg : wr.heap[w.heap.size]? = some (.cells #[x, y] T (0, 0))
  box : wr.heap[g]? = some (.cells #[u, v] T' (0, 0))
  list : IntsB B wr A zs
  low : Below w.heap.size w wr
  size : B ≤ wr.heap.size
  lt : w.heap.size < B
  glt : g < B
theorem Stays.next {B g : Nat} {w wr w1 : World} {T T' : TypeId} {x y u v : Value} {A : Option Addr} {zs : List Int} (h : Stays B w wr T x y g T' u v A zs) (hb : Below B wr w1) : Stays B w w1 T x y g T' u v A zs :=
  ⟨(hb.block _ h.lt).trans h.arg, (hb.block _ h.glt).trans h.box, h.list.below hb, h.low.trans (hb.mono (Nat.le_of_lt h.lt)), Nat.le_trans h.size hb.size, h.lt, h.glt⟩
theorem Stays.step {B g : Nat} {w wr w1 : World} {T T' : TypeId} {x y u v : Value} {A : Option Addr} {zs : List Int} (h : Stays B w wr T x y g T' u v A zs) (hb : Below wr.heap.size wr w1) : Stays B w w1 T x y g T' u v A zs :=
  h.next (hb.mono h.size)
theorem Stays.alloc {B g : Nat} {w wr : World} {T T' : TypeId} {x y u v : Value} {A : Option Addr} {zs : List Int} (h : Stays B w wr T x y g T' u v A zs) (o : Obj) : Stays B w (wr.alloc o) T x y g T' u v A zs :=
  h.step ((Below.refl _ _).alloc (Nat.le_refl _) _)
theorem IntsB.ints {B : Nat} {w : World} {A : Option Addr} {zs : List Int} (h : IntsB B w A zs) (hB : B ≤ w.heap.size) : Ints w A zs := fun h0 => by
  obtain ⟨b, o, e, hl, hc⟩ := h h0
  exact ⟨b, o, e, by omega, hc⟩
theorem FnExactTapeList_walk (s a n k : Int) (w : World) (_h0 : (Lit.int .i64 s).wf = true) (_h1 : (Lit.int .i64 a).wf = true) (_h2 : (Lit.int .i64 n).wf = true) (_h3 : (Lit.int .i64 k).wf = true) :
    Calls Try.prog 8 #[.agg #[.int .i64 s, .int .i64 a], .int .i64 n, .int .i64 k] w fun e w' => e = .returned (.bool true) ∧ Below w.heap.size w w' := by
  have k0 := Kept.start w 37 (.int .i64 s) (.int .i64 a)
  obtain ⟨zs, hz, hzl⟩ : ∃ zs, tlI s a n k = zs ∧ zs.length ≤ 1000 := ⟨_, rfl, tlI_length s a n k⟩
  obtain ⟨b, hq⟩ : ∃ b, tlaI s a n k = b := ⟨_, rfl⟩
  have Hz := Lib.hid hz
  have Hq := Lib.hid hq
  clear hz hq
  go_enter Try.func8, Try.ntmps8
  go_wp2_with fail
  refine (toTape_any s a _).mono ?_
  rintro e w1 ⟨rfl, hb1⟩
  have k1 := k0.next hb1
  clear hb1 k0
  go_wp2_with fail
  refine (spec_TapeList s a n k w1).mono ?_
  rw [Hz.out, Hq.out]
  rintro e w2 ⟨A1, m, c1, rfl, hl1, hown1, hb2⟩
  have k2 := (k1.next hb2).alloc (.cells #[.int .i64 s, .int .i64 b] 25)
  have m2 := heap_alloc_new w2 (.cells #[.int .i64 s, .int .i64 b] 25)
  have i2 : Ints (w2.alloc (.cells #[.int .i64 s, .int .i64 b] 25)) A1 zs := (Ints.of_own hown1).below ((Below.refl _ _).alloc (Nat.le_refl _) _)
  have st2 : Stays (w2.alloc (.cells #[.int .i64 s, .int .i64 b] 25)).heap.size w (w2.alloc (.cells #[.int .i64 s, .int .i64 b] 25)) 37 (.int .i64 s) (.int .i64 a) w2.heap.size 25 (.int .i64 s) (.int .i64 b) A1 zs :=
    ⟨k2.arg, m2, i2.bound, k2.low, Nat.le_refl _, (Array.getElem?_eq_some_iff.1 k2.arg).1, (by simp)⟩
  obtain ⟨c0, c1', _, _⟩ := box2 k2.arg
  have Hl1 := Lib.hid hl1
  clear hb2 k1 hown1 i2 m2 k2 hl1
  have hm : m ≤ 1000 := by rw [← Hl1.out]; exact hzl
  go_wp2_with fail
  refine (toTape_any s a _).mono ?_
  rintro e w3 ⟨rfl, hb3⟩
  have st3 := st2.step hb3
  generalize (w2.alloc (.cells #[.int .i64 s, .int .i64 b] 25)).heap.size = B at st3
  generalize w2.heap.size = g2 at st3 ⊢
  clear hb3 c0 c1' st2
  go_wp2_with fail
  refine (impl_TapeList s a n k w3).mono ?_
  rw [Hz.out, Hq.out]
  rintro e w4 ⟨A2, m', c2, rfl, hl2, hown2, hb4⟩
  obtain rfl : m' = m := by rw [← hl2, Hl1.out]
  have own2 := own_mono (hown2.alloc (.cells #[.int .i64 s, .int .i64 b] 25)) st3.size
  have st4 := (st3.step hb4).alloc (.cells #[.int .i64 s, .int .i64 b] 25)
  have n4 := heap_alloc_new w4 (.cells #[.int .i64 s, .int .i64 b] 25)
  clear hown2 hb4 st3 hl2
  go_wp2_with fail
  refine (eqIntS_any m' c2 m' c1 A2 A1 zs zs _ (Ints.of_own own2) (st4.list.ints st4.size) Hl1.out Hl1.out (by omega)).mono ?_
  rintro e w5 ⟨rfl, hb5⟩
  rw [decide_eq_true rfl]
  have st5 := st4.step hb5
  have own5 := own_below own2 hb5
  have n5 := box2_below n4 hb5
  clear own2 st4 n4 hb5
  obtain ⟨p0, p1, _, _⟩ := box2 n5
  obtain ⟨q0, q1, _, _⟩ := box2 st5.box
  generalize w4.heap.size = g4 at p0 p1 ⊢
  clear n5
  go_wp2_with fail
  refine (eqTape_any s b _).mono ?_
  rintro e w6 ⟨rfl, hb6⟩
  have st6 := st5.step hb6
  have own6 := own_below own5 hb6
  clear st5 own5 hb6 p0 p1 q0 q1
  go_wp2_with fail
  refine (markIntS_any B m' 1 _ _ w6 own6 (by omega)).mono ?_
  rintro e w7 ⟨rfl, own7, hb7⟩
  have st7 := st6.next hb7
  clear st6 own6 hb7
  go_wp2_with fail
  refine (heldIntS_any m' 1 c2 A2 w7 (Ints.of_own own7) (by omega)).mono ?_
  rintro e w8 ⟨rfl, rfl⟩
  obtain ⟨c0, c1', _, _⟩ := box2 st7.arg
  go_wp2_with fail
  refine (toTape_any s a _).mono ?_
  rintro e w8 ⟨rfl, hb8⟩
  have st8 := st7.step hb8
  have own8 := own_below own7 hb8
  clear st7 own7 hb8 c0 c1'
  go_wp2_with fail
  refine (impl_TapeList s a n k w8).mono ?_
  rw [Hz.out, Hq.out]
  rintro e w9 ⟨A3, m3, c3, rfl, hl3, hown3, hb9⟩
  obtain rfl : m3 = m' := by rw [← hl3, Hl1.out]
  have own3 := own_mono (hown3.alloc (.cells #[.int .i64 s, .int .i64 b] 25)) st8.size
  have st9 := (st8.step hb9).alloc (.cells #[.int .i64 s, .int .i64 b] 25)
  have own9 := (own_below own8 hb9).alloc (.cells #[.int .i64 s, .int .i64 b] 25)
  have n9 := heap_alloc_new w9 (.cells #[.int .i64 s, .int .i64 b] 25)
  clear hown3 hb9 st8 own8 hl3
  go_wp2_with fail
  refine (eqIntS_any m3 c3 m3 c1 A3 A1 zs zs _ (Ints.of_own own3) (st9.list.ints st9.size) Hl1.out Hl1.out (by omega)).mono ?_
  rintro e w10 ⟨rfl, hb10⟩
  rw [decide_eq_true rfl]
  have st10 := st9.step hb10
  have own10 := own_below own9 hb10
  have n10 := box2_below n9 hb10
  clear own3 own9 st9 n9 hb10
  obtain ⟨p0, p1, _, _⟩ := box2 n10
  obtain ⟨q0, q1, _, _⟩ := box2 st10.box
  generalize w9.heap.size = g9 at p0 p1 ⊢
  clear n10
  go_wp2_with fail
  refine (eqTape_any s b _).mono ?_
  rintro e w11 ⟨rfl, hb11⟩
  have st11 := st10.step hb11
  have own11 := own_below own10 hb11
  clear st10 own10 hb11 p0 p1 q0 q1
  go_wp2_with fail
  refine (heldIntS_any m3 1 c2 A2 w11 (Ints.of_own own11) (by omega)).mono ?_
  rintro e w12 ⟨rfl, rfl⟩
  go_wp2_with fail
  go_ret
  exact ⟨rfl, st11.low⟩
end Go.Proofs.Ytjfgninlnlhibaa
