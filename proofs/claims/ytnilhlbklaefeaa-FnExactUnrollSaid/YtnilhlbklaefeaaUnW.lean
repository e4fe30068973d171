/- The law FnExactUnroll: the walk. No condition. -/
import Derived.Test.YtnilhlbklaefeaaProg
import Derived.Test.YtnilhlbklaefeaaUnU
import Derived.Test.YtnilhlbklaefeaaStmtR
import Derived.Test.YtnilhlbklaefeaaAgg
namespace Go.Proofs.Ytnilhlbklaefeaa
open Go Go.RowKit
theorem OwnSt.keep {lo hi lo' hi' n m : Nat} {w w1 : World} {u v : Value} {ss ts : List St} (h : OwnSt lo hi w v n ss) (hu : OwnSt lo' hi' w u m ts) (hg : w.grownBy w1 u.ownBlock) (hd : hi ≤ lo' ∨ hi' ≤ lo) : OwnSt lo hi w1 v n ss :=
  ⟨World.ownsRow.kept h.own hg (by
    rcases hv : v.ownBlock with _ | k
    · exact .inl rfl
    · refine .inr (fun e => ?_)
      have h1 := (World.ownsRow.lt h.own k hv).1
      have h2 := h.top k hv
      have h3 := (World.ownsRow.lt hu.own k e.symm).1
      have h4 := hu.top k e.symm
      omega), h.top⟩
theorem ints_of_marks {w : World} {base n c m : Nat} {e : TypeId} {A : Option Addr} {zs : List Int} (h : w.ownsRow base e m (.slice A n c) n (intVals zs)) : Ints w A zs := fun h0 => by
  have hl : zs.length = n * m := by have := h.1; rw [intVals_length] at this; exact this
  rcases h.2 with ⟨he, h1⟩ | ⟨g, cap, cur, he, hg, hh, _⟩
  · subst h1; omega
  · injection he with he1 he2 he3
    subst he1 he3
    refine ⟨g, 0, rfl, (Array.getElem?_eq_some_iff.1 hh).1, fun j hj => ?_⟩
    rw [Nat.zero_add, h.cellAt j (by omega)]
    simp [intVals, List.getElem?_map, List.getElem?_eq_getElem hj]
set_option maxRecDepth 100000 in
set_option maxHeartbeats 2000000 in
theorem exact_unroll (A0 : Option Addr) (n0 c0 : Nat) (z0 V : List St) (b : Bool) (hV : V.length ≤ 1000000) (w : World) (h0 : Ints w A0 (flat z0)) (l0 : z0.length = n0) (m0 : n0 ≤ 9223372036854775807)
    (cs : ∀ (A : Option Addr) (w : World), n0 ≤ 2000000 → Ints w A (flat z0) → Calls Try.prog 21 #[.slice A n0 n0] w (Post_S_bool V b w))
    (ci : ∀ (A : Option Addr) (w : World), n0 ≤ 2000000 → Ints w A (flat z0) → Calls Try.prog 11 #[.slice A n0 n0] w (Post_S_bool V b w)) :
    Calls Try.prog 6 #[.slice A0 n0 c0] w fun e w' => e = .returned (.bool true) ∧ Below w.heap.size w w' := by
  have low : Below w.heap.size w w := Below.refl _ _
  have L0 := Lib.hid l0
  have HV := Lib.hid hV
  have i0 := h0.bound.below low
  clear h0 l0 hV
  go_enter Try.func6, Try.ntmps6
  go_wp2_with fail
  have s1 := szStmtS_any 1048576 A0 n0 c0 w (by omega) m0
  by_cases hn0 : n0 ≤ 1048576
  case neg =>
    rw [show szRes 1048576 n0 = -1 by rw [szRes, if_neg hn0]] at s1
    refine s1.mono ?_
    rintro e w3 ⟨rfl, rfl⟩
    go_wp2_with fail
    go_ret
    exact ⟨rfl, low⟩
  rw [show szRes 1048576 n0 = ((1048576 - n0 : Nat) : Int) by rw [szRes, if_pos hn0]] at s1
  have mm0 : n0 ≤ 2000000 := by omega
  have zf2 : 1048576 - n0 ≤ 1048576 := by omega
  clear hn0 m0
  generalize 1048576 - n0 = f2 at *
  refine s1.mono ?_
  rintro e w3 ⟨rfl, rfl⟩
  clear s1
  have yf2 : (0 : Int) ≤ f2 := by omega
  cases b
  all_goals
    go_wp2_with fail
    refine (toStmtS_new A0 n0 c0 z0 w (i0.ints low.size) L0.out (by omega)).mono ?_
    rintro e w1 ⟨X1, rfl, o1, hb1⟩
    have low1 := low.trans (hb1.mono low.size)
    go_wp2_with fail
    refine (cs X1 w1 mm0 o1.ints).mono ?_
    rintro e w2 ⟨S, mS, kS, rfl, lS, oS, hb2⟩
    have low2 := low1.trans (hb2.mono low1.size)
    go_wp2_with fail
    refine (toStmtS_new A0 n0 c0 z0 w2 ((i0.below low2).ints low2.size) L0.out (by omega)).mono ?_
    rintro e w3 ⟨X, rfl, oX, hb3⟩
    have low3 := low2.trans (hb3.mono low2.size)
    have oS3 := oS.below hb3
    go_wp2_with fail
    refine (ci X w3 mm0 oX.ints).mono ?_
    rintro e w4 ⟨G, mG, kG, rfl, lG, oG, hb4⟩
    have low4 := low3.trans (hb4.mono low3.size)
    have oS4 := oS3.below hb4
    have oX4 := oX.below hb4
    have HlS := Lib.hid lS
    have HlG := Lib.hid lG
    clear lS lG
    go_wp2_with fail
    refine (eqStmtS_same mG mS kG kS G S V V w4 oG.ints oS4.ints rfl HlG.out HlS.out (by have := HlG.out; have := HV.out; omega)).mono ?_
    rintro e w5 ⟨rfl, hb5⟩
    have low5 := low4.trans (hb5.mono low4.size)
    have oS5 := oS4.below hb5
    have oX5 := oX4.below hb5
    have oG5 := oG.below hb5
    go_wp2_with fail
    refine (toStmtS_new A0 n0 c0 z0 w5 ((i0.below low5).ints low5.size) L0.out (by omega)).mono ?_
    rintro e w6 ⟨Y, rfl, oY, hb6⟩
    have low6 := low5.trans (hb6.mono low5.size)
    have oS6 := oS5.below hb6
    have oX6 := oX5.below hb6
    have oG6 := oG5.below hb6
    go_wp2_with fail
    refine (eqStmtS_same n0 n0 n0 n0 X Y z0 z0 w6 oX6.ints oY.ints rfl L0.out L0.out (by omega)).mono ?_
    rintro e w7 ⟨rfl, hb7⟩
    have low7 := low6.trans (hb7.mono low6.size)
    have oS7 := oS6.below hb7
    have oX7 := oX6.below hb7
    have oG7 := oG6.below hb7
    go_wp2_with fail
    refine (markStmtS_own w2.heap.size n0 1 (.slice X n0 n0) (flat z0) w7 oX7.own (by omega)).mono ?_
    rintro e w8 ⟨rfl, hmk, hg8⟩
    have low8 : Below w.heap.size w w8 := low7.grown hg8 low7.size (fun k hk => by have := (World.ownsRow.lt oX7.own k hk).1; have := low2.size; omega)
    have oS8 := oS7.keep oX7 hg8 (.inl (Nat.le_refl _))
    have oG8 := oG7.keep oX7 hg8 (.inr (Nat.le_refl _))
    clear hmk hg8
    go_wp2_with fail
    refine (eqStmtS_same mG mS kG kS G S V V w8 oG8.ints oS8.ints rfl HlG.out HlS.out (by have := HlG.out; have := HV.out; omega)).mono ?_
    rintro e w9 ⟨rfl, hb9⟩
    have low9 := low8.trans (hb9.mono low8.size)
    have oS9 := oS8.below hb9
    have oG9 := oG8.below hb9
    have hmG : mG * 6 + 1 ≤ 1000000000 := by have := HlG.out; have := HV.out; omega
    go_wp2_with fail
    refine (markStmtS_own w3.heap.size mG 1 (.slice G mG kG) (flat V) w9 oG9.own hmG).mono ?_
    rintro e w10 ⟨rfl, hmk, hg10⟩
    have low10 : Below w.heap.size w w10 := low9.grown hg10 low9.size (fun k hk => by have := (World.ownsRow.lt oG9.own k hk).1; have := low3.size; omega)
    have oS10 := oS9.keep oG9 hg10 (.inl hb3.size)
    have hm1 : Ints w10 G (markInts 1 (mG * 6)) := ints_of_marks hmk
    clear hg10
    go_wp2_with fail
    refine (heldStmtS_any mG 1 kG G w10 hm1 hmG).mono ?_
    rintro e w11 ⟨rfl, rfl⟩
    go_wp2_with fail
    refine (toStmtS_new A0 n0 c0 z0 w10 ((i0.below low10).ints low10.size) L0.out (by omega)).mono ?_
    rintro e w11 ⟨Z, rfl, oZ, hb11⟩
    have low11 := low10.trans (hb11.mono low10.size)
    have oS11 := oS10.below hb11
    have hmk11 := own_below hmk hb11
    go_wp2_with fail
    refine (ci Z w11 mm0 oZ.ints).mono ?_
    rintro e w12 ⟨H, mH, kH, rfl, lH, oH, hb12⟩
    have low12 := low11.trans (hb12.mono low11.size)
    have oS12 := oS11.below hb12
    have hmk12 := own_below hmk11 hb12
    have HlH := Lib.hid lH
    clear lH
    go_wp2_with fail
    refine (eqStmtS_same mH mS kH kS H S V V w12 oH.ints oS12.ints rfl HlH.out HlS.out (by have := HlH.out; have := HV.out; omega)).mono ?_
    rintro e w13 ⟨rfl, hb13⟩
    have low13 := low12.trans (hb13.mono low12.size)
    have hmk13 := own_below hmk12 hb13
    have hm13 : Ints w13 G (markInts 1 (mG * 6)) := ints_of_marks hmk13
    go_wp2_with fail
    refine (heldStmtS_any mG 1 kG G w13 hm13 hmG).mono ?_
    rintro e w14 ⟨rfl, rfl⟩
    go_wp2_with fail
    go_ret
    exact ⟨rfl, low13⟩
theorem unrV_small (ss : List St) : (unrV ss).length ≤ 120 := by
  unfold unrV
  split
  · rename_i h; exact h.2
  · simp
theorem FnExactUnroll_walk (A0 : Option Addr) (n0 c0 : Nat) (z0 : List St) (w : World) (h0 : Ints w A0 (flat z0)) (l0 : z0.length = n0) (m0 : n0 ≤ 9223372036854775807) :
    Calls Try.prog 6 #[.slice A0 n0 c0] w fun e w' => e = .returned (.bool true) ∧ Below w.heap.size w w' :=
  exact_unroll A0 n0 c0 z0 (unrV z0) (decide (unrI z0)) (by have := unrV_small z0; omega) w h0 l0 m0 (fun A w hn h => spec_Unroll A n0 n0 z0 w h l0 hn) (fun A w hn h => impl_Unroll A n0 n0 z0 w h l0 hn)
end Go.Proofs.Ytnilhlbklaefeaa
