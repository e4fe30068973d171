/- The law FnExactTossNew. -/
import Derived.Test.YtedfblgopmiheaaProg
import Derived.Test.YtedfblgopmiheaaTossN
import Derived.Test.YtedfblgopmiheaaTossS
namespace Go.Proofs.Ytedfblgopmiheaa
open Go Go.RowKit
/-- What stays below block lo: the arguments, the model's toss and its box. -/
structure Base2 (w wr : World) (A B : Option Addr) (x y : List Int) (s0 s1 s2 : Value) (n : Nat) (X Y Z : List Int) (p lo : Nat) : Prop where
  ia : IntsB w.heap.size wr A x
  ib : IntsB w.heap.size wr B y
  ow : OwnToss w.heap.size p wr s0 s1 s2 n n n X Y Z
  box : wr.heap[p]? = some (.cells #[s0, s1, s2] 31 (0, 0))
  low : Below w.heap.size w wr
  lt : w.heap.size ≤ p ∧ p < lo ∧ lo ≤ wr.heap.size
section
variable {w wr w1 : World} {A B : Option Addr} {x y : List Int} {s0 s1 s2 : Value} {n p lo : Nat} {X Y Z : List Int}
theorem Base2.low_ (h : Base2 w wr A B x y s0 s1 s2 n X Y Z p lo) (hb : Below lo wr w1) : Base2 w w1 A B x y s0 s1 s2 n X Y Z p lo := by
  have hl := h.lt
  exact ⟨h.ia.below (hb.mono (by omega)), h.ib.below (hb.mono (by omega)), h.ow.mid (Mid.mk hb.os hb.tape hb.output hb.size (lo := lo) (hi := wr.heap.size) (fun i hi hd => hb.block i (by omega))) (.inl (by omega)),
    (hb.block p (by omega)).trans h.box, h.low.trans (hb.mono (by omega)), by have := hb.size; omega⟩
theorem Base2.next (h : Base2 w wr A B x y s0 s1 s2 n X Y Z p lo) (hb : Below wr.heap.size wr w1) : Base2 w w1 A B x y s0 s1 s2 n X Y Z p lo := h.low_ (hb.mono h.lt.2.2)
theorem Base2.alloc (h : Base2 w wr A B x y s0 s1 s2 n X Y Z p lo) (o : Obj) : Base2 w (wr.alloc o) A B x y s0 s1 s2 n X Y Z p lo := h.next ((Below.refl _ _).alloc (Nat.le_refl _) _)
theorem Base2.mid {l r : Nat} (h : Base2 w wr A B x y s0 s1 s2 n X Y Z p lo) (m : Mid l r wr w1) (hl : lo ≤ l) : Base2 w w1 A B x y s0 s1 s2 n X Y Z p lo := h.low_ (m.low hl h.lt.2.2)
end
set_option maxHeartbeats 1000000 in
theorem FnExactTossNew_walk (A : Option Addr) (n c : Nat) (x : List Int) (B : Option Addr) (m d : Nat) (y : List Int) (w : World)
    (hx : Ints w A x) (lx : x.length = n) (mx : n ≤ 9223372036854775807) (hy : Ints w B y) (ly : y.length = m) (my : m ≤ 9223372036854775807) :
    Calls Try.prog 7 #[.slice A n c, .slice B m d] w fun e w' => e = .returned (.bool true) ∧ Below w.heap.size w w' := by
  by_cases hn : 1048576 < n
  · clear hx hy lx ly
    go_enter Try.func7, Try.ntmps7
    go_wp2_with fail
    go_ret
    exact ⟨rfl, Below.refl _ _⟩
  · by_cases hm : 1048576 < m
    · clear hx hy lx ly
      have hn' : n ≤ 1048576 := by omega
      clear hn
      go_enter Try.func7, Try.ntmps7
      go_wp2_with fail
      go_ret
      exact ⟨rfl, Below.refl _ _⟩
    · have hn' : n ≤ 1048576 := by omega
      have hm' : m ≤ 1048576 := by omega
      clear hn hm mx my
      have LX := Lib.hid lx
      have LY := Lib.hid ly
      clear lx ly
      obtain ⟨X, hX⟩ : ∃ X, tX x y = X := ⟨_, rfl⟩
      obtain ⟨Y, hY⟩ : ∃ Y, tY x y = Y := ⟨_, rfl⟩
      obtain ⟨Z, hZ⟩ : ∃ Z, tZ x y = Z := ⟨_, rfl⟩
      obtain ⟨r, hr⟩ : ∃ r, decide (tossOk x y) = r := ⟨_, rfl⟩
      have E := Lib.hid (show ∀ w e w', TossMade x y w e w' → ∃ (A0 A1 A2 : Option Addr) (c0 c1 c2 n : Nat), e = .returned (.tuple #[.agg #[.slice A0 n c0, .slice A1 n c1, .slice A2 n c2], .bool r]) ∧
        OwnToss w.heap.size w'.heap.size w' (.slice A0 n c0) (.slice A1 n c1) (.slice A2 n c2) n n n X Y Z ∧ n ≤ 5 ∧ Below w.heap.size w w' from by
          subst hX hY hZ hr; intro w e w' h; exact h)
      clear hX hY hZ hr
      go_enter Try.func7, Try.ntmps7
      go_wp2_with fail
      refine (toIntS_own A n c x w hx LX.out (by omega)).mono ?_
      rintro e w1 ⟨A1, rfl, o1, hb1⟩
      go_wp2_with fail
      refine (toIntS_own B m d y w1 (hy.below hb1) LY.out (by omega)).mono ?_
      rintro e w2 ⟨A2, rfl, o2, hb2⟩
      go_wp2_with fail
      refine (spec_TossNew A1 A2 n n m m x y w2 (o1.below hb2).ints o2.ints LX.out LY.out (by omega) (by omega)).mono ?_
      intro e w3 h3
      obtain ⟨S0, S1, S2, f0, f1, f2, k, rfl, ow, hk5, hb3⟩ := E.out _ _ _ h3
      have low3 := (hb1.trans (hb2.mono hb1.size)).trans (hb3.mono (by have := hb1.size; have := hb2.size; omega))
      have bs : Base2 w (w3.alloc (.cells #[.slice S0 k f0, .slice S1 k f1, .slice S2 k f2] 31)) A B x y (.slice S0 k f0) (.slice S1 k f1) (.slice S2 k f2) k X Y Z w3.heap.size (w3.heap.size + 1) :=
        ⟨(hx.bound.below low3).below ((Below.refl _ _).alloc low3.size _), (hy.bound.below low3).below ((Below.refl _ _).alloc low3.size _), (ow.wide (by have := hb1.size; have := hb2.size; omega) (Nat.le_refl _)).alloc _, heap_alloc_new _ _, low3.alloc low3.size _,
          by have := low3.size; simp; omega⟩
      clear h3 ow hb3 hb2 hb1 o1 o2 low3 hx hy
      go_wp2_with fail
      generalize w3.alloc (.cells #[.slice S0 k f0, .slice S1 k f1, .slice S2 k f2] 31) = w4 at *
      generalize w3.heap.size = p5 at *
      -- the arguments' copies
      refine (toIntS_own A n c x w4 (bs.ia.ints bs.low.size) LX.out (by omega)).mono ?_
      rintro e w5 ⟨X0, rfl, o0, hb⟩
      have q0 := bs.lt
      have q00 := hb.size
      replace bs := bs.next hb
      clear hb
      go_wp2_with fail
      refine (toIntS_own B m d y w5 (bs.ib.ints bs.low.size) LY.out (by omega)).mono ?_
      rintro e w6 ⟨X1, rfl, o1, hb⟩
      replace bs := bs.next hb
      replace o0 := o0.below hb
      have q1 := hb.size
      clear hb
      go_wp2_with fail
      refine (impl_TossNew X0 X1 n n m m x y w6 o0.ints o1.ints LX.out LY.out (by omega) (by omega)).mono ?_
      intro e w7 h7
      obtain ⟨G0, G1, G2, h0, h1, h2, k', rfl, og, hk5', hb⟩ := E.out _ _ _ h7
      obtain rfl : k' = k := by rw [← og.o0.len, ← bs.ow.o0.len]
      replace bs := (bs.next hb).alloc (.cells #[.slice G0 k' h0, .slice G1 k' h1, .slice G2 k' h2] 31)
      replace o0 := (o0.below hb).alloc (.cells #[.slice G0 k' h0, .slice G1 k' h1, .slice G2 k' h2] 31)
      replace o1 := (o1.below hb).alloc (.cells #[.slice G0 k' h0, .slice G1 k' h1, .slice G2 k' h2] 31)
      replace og := og.alloc (.cells #[.slice G0 k' h0, .slice G1 k' h1, .slice G2 k' h2] 31)
      have b9 := heap_alloc_new w7 (.cells #[.slice G0 k' h0, .slice G1 k' h1, .slice G2 k' h2] 31)
      have q2 := hb.size
      clear h7 hb
      obtain ⟨c0, _⟩ := blk (i := 0) bs.box rfl
      obtain ⟨c1, _⟩ := blk (i := 1) bs.box rfl
      obtain ⟨c2, _⟩ := blk (i := 2) bs.box rfl
      have Lk0 := Lib.hid bs.ow.o0.len
      have Lk1 := Lib.hid bs.ow.o1.len
      have Lk2 := Lib.hid bs.ow.o2.len
      go_wp2_with fail
      generalize w7.alloc (.cells #[.slice G0 k' h0, .slice G1 k' h1, .slice G2 k' h2] 31) = w8 at *
      generalize w7.heap.size = p9 at *
      refine (eqToss_same G0 G1 G2 h0 h1 h2 S0 S1 S2 f0 f1 f2 k' k' k' X Y Z w8 og.o0.ints bs.ow.o0.ints Lk0.out (by omega) og.o1.ints bs.ow.o1.ints Lk1.out (by omega) og.o2.ints bs.ow.o2.ints Lk2.out (by omega)).mono ?_
      rintro e w9 ⟨rfl, hb⟩
      replace bs := bs.next hb
      replace o0 := o0.below hb
      replace o1 := o1.below hb
      replace og := og.below hb
      replace b9 := heap_below b9 hb
      clear hb c0 c1 c2
      go_wp2_with fail
      refine (toIntS_own A n c x w9 (bs.ia.ints bs.low.size) LX.out (by omega)).mono ?_
      rintro e w10 ⟨X2, rfl, o2, hb⟩
      replace bs := bs.next hb
      replace o0 := o0.below hb
      replace o1 := o1.below hb
      replace og := og.below hb
      replace b9 := heap_below b9 hb
      clear hb
      go_wp2_with fail
      refine (eqIntS_same n n n n X0 X2 x x w10 o0.ints o2.ints rfl LX.out LX.out (by omega)).mono ?_
      rintro e w11 ⟨rfl, hb⟩
      replace bs := bs.next hb
      replace o0 := o0.below hb
      replace o1 := o1.below hb
      replace og := og.below hb
      replace b9 := heap_below b9 hb
      clear hb o2
      go_wp2_with fail
      refine (toIntS_own B m d y w11 (bs.ib.ints bs.low.size) LY.out (by omega)).mono ?_
      rintro e w12 ⟨X2, rfl, o2, hb⟩
      replace bs := bs.next hb
      replace o0 := o0.below hb
      replace o1 := o1.below hb
      replace og := og.below hb
      replace b9 := heap_below b9 hb
      clear hb
      go_wp2_with fail
      refine (eqIntS_same m m m m X1 X2 y y w12 o1.ints o2.ints rfl LY.out LY.out (by omega)).mono ?_
      rintro e w13 ⟨rfl, hb⟩
      replace bs := bs.next hb
      replace o0 := o0.below hb
      replace o1 := o1.below hb
      replace og := og.below hb
      replace b9 := heap_below b9 hb
      clear hb o2
      -- the copies are marked
      go_wp2_with fail
      refine (markIntS_own _ _ n 1 _ x w13 o0 (by omega)).mono ?_
      rintro e w14 ⟨rfl, o0', hg⟩
      have mg := Mid.of_grown (lo := w4.heap.size) (hi := w5.heap.size) hg (fun k e => o0.ltB e)
      replace bs := bs.mid mg q0.2.2
      replace o1 := o1.mid mg (.inr (Nat.le_refl _))
      replace og := og.mid mg (.inr q1)
      replace b9 := mg.heap b9 (.inr (by omega))
      clear o0 o0' hg mg
      go_wp2_with fail
      refine (markIntS_own _ _ m (1 + n) _ y w14 o1 (by omega)).mono ?_
      rintro e w15 ⟨rfl, o1', hg⟩
      have mg := Mid.of_grown (lo := w5.heap.size) (hi := w6.heap.size) hg (fun k e => o1.ltB e)
      replace bs := bs.mid mg (by omega)
      replace og := og.mid mg (.inr (Nat.le_refl _))
      replace b9 := mg.heap b9 (.inr (by omega))
      clear o1 o1' hg mg
      obtain ⟨c0, _⟩ := blk (i := 0) bs.box rfl
      obtain ⟨c1, _⟩ := blk (i := 1) bs.box rfl
      obtain ⟨c2, _⟩ := blk (i := 2) bs.box rfl
      obtain ⟨d0, _⟩ := blk (i := 0) b9 rfl
      obtain ⟨d1, _⟩ := blk (i := 1) b9 rfl
      obtain ⟨d2, _⟩ := blk (i := 2) b9 rfl
      go_wp2_with fail
      refine (eqToss_same G0 G1 G2 h0 h1 h2 S0 S1 S2 f0 f1 f2 k' k' k' X Y Z w15 og.o0.ints bs.ow.o0.ints Lk0.out (by omega) og.o1.ints bs.ow.o1.ints Lk1.out (by omega) og.o2.ints bs.ow.o2.ints Lk2.out (by omega)).mono ?_
      rintro e w16 ⟨rfl, hb⟩
      replace bs := bs.next hb
      replace og := og.below hb
      replace b9 := heap_below b9 hb
      clear hb c0 c1 c2 d0 d1 d2
      obtain ⟨d0, _⟩ := blk (i := 0) b9 rfl
      obtain ⟨d1, _⟩ := blk (i := 1) b9 rfl
      obtain ⟨d2, _⟩ := blk (i := 2) b9 rfl
      have q3 := heap_lt b9
      go_wp2_with fail
      refine (markToss_own _ _ 1 G0 G1 G2 h0 h1 h2 k' k' k' X Y Z w16 og (by omega) (by omega)).mono ?_
      rintro e w17 ⟨rfl, og', mg⟩
      replace bs := bs.mid mg (by omega)
      replace b9 := mg.heap b9 (.inr (Nat.le_refl _))
      clear og mg d0 d1 d2
      obtain ⟨d0, _⟩ := blk (i := 0) b9 rfl
      obtain ⟨d1, _⟩ := blk (i := 1) b9 rfl
      obtain ⟨d2, _⟩ := blk (i := 2) b9 rfl
      go_wp2_with fail
      refine (heldToss_any 1 G0 G1 G2 h0 h1 h2 k' k' k' w17 og'.o0.ints og'.o1.ints og'.o2.ints (by omega)).mono ?_
      rintro e w18 ⟨rfl, hb⟩
      replace bs := bs.next hb
      replace og' := og'.below hb
      replace b9 := heap_below b9 hb
      clear hb d0 d1 d2
      -- once more
      go_wp2_with fail
      refine (toIntS_own A n c x w18 (bs.ia.ints bs.low.size) LX.out (by omega)).mono ?_
      rintro e w19 ⟨X2, rfl, o2, hb⟩
      replace bs := bs.next hb
      replace og' := og'.below hb
      replace b9 := heap_below b9 hb
      clear hb
      go_wp2_with fail
      refine (toIntS_own B m d y w19 (bs.ib.ints bs.low.size) LY.out (by omega)).mono ?_
      rintro e w20 ⟨X3, rfl, o3, hb⟩
      replace bs := bs.next hb
      replace og' := og'.below hb
      replace b9 := heap_below b9 hb
      replace o2 := o2.below hb
      clear hb
      go_wp2_with fail
      refine (impl_TossNew X2 X3 n n m m x y w20 o2.ints o3.ints LX.out LY.out (by omega) (by omega)).mono ?_
      intro e w21 h21
      obtain ⟨H0, H1, H2, j0, j1, j2, k, rfl, oh, _, hb⟩ := E.out _ _ _ h21
      obtain rfl : k = k' := by rw [← oh.o0.len, ← bs.ow.o0.len]
      replace bs := (bs.next hb).alloc (.cells #[.slice H0 k j0, .slice H1 k j1, .slice H2 k j2] 31)
      replace oh := oh.alloc (.cells #[.slice H0 k j0, .slice H1 k j1, .slice H2 k j2] 31)
      replace og' := (og'.below hb).alloc (.cells #[.slice H0 k j0, .slice H1 k j1, .slice H2 k j2] 31)
      replace b9 := heap_alloc (heap_below b9 hb) (.cells #[.slice H0 k j0, .slice H1 k j1, .slice H2 k j2] 31)
      clear h21 hb o2 o3
      obtain ⟨c0, _⟩ := blk (i := 0) bs.box rfl
      obtain ⟨c1, _⟩ := blk (i := 1) bs.box rfl
      obtain ⟨c2, _⟩ := blk (i := 2) bs.box rfl
      go_wp2_with fail
      generalize w21.alloc (.cells #[.slice H0 k j0, .slice H1 k j1, .slice H2 k j2] 31) = w22 at *
      refine (eqToss_same H0 H1 H2 j0 j1 j2 S0 S1 S2 f0 f1 f2 k k k X Y Z w22 oh.o0.ints bs.ow.o0.ints Lk0.out (by omega) oh.o1.ints bs.ow.o1.ints Lk1.out (by omega) oh.o2.ints bs.ow.o2.ints Lk2.out (by omega)).mono ?_
      rintro e w23 ⟨rfl, hb⟩
      replace bs := bs.next hb
      replace og' := og'.below hb
      replace b9 := heap_below b9 hb
      clear hb c0 c1 c2 oh
      obtain ⟨d0, _⟩ := blk (i := 0) b9 rfl
      obtain ⟨d1, _⟩ := blk (i := 1) b9 rfl
      obtain ⟨d2, _⟩ := blk (i := 2) b9 rfl
      go_wp2_with fail
      refine (heldToss_any 1 G0 G1 G2 h0 h1 h2 k k k w23 og'.o0.ints og'.o1.ints og'.o2.ints (by omega)).mono ?_
      rintro e w24 ⟨rfl, hb⟩
      replace bs := bs.next hb
      clear hb d0 d1 d2
      go_wp2_with fail
      go_ret
      exact ⟨rfl, bs.low⟩
end Go.Proofs.Ytedfblgopmiheaa
