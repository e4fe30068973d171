/- TossNew and its model make the same toss, of slices of its own. -/
import Derived.Test.YtedfblgopmiheaaProg
import Derived.Test.YtedfblgopmiheaaToss
namespace Go.Proofs.Ytedfblgopmiheaa
open Go Go.RowKit
def canTo (x y : List Int) (k : Nat) : Prop := ∀ j, j < k → canC (x.getD j 0) (y.getD j 0)
instance (x y : List Int) (k : Nat) : Decidable (canTo x y k) := by unfold canTo; infer_instance
theorem canTo_next {x y : List Int} {k : Nat} (h : canTo x y k) (hk : canC (x.getD k 0) (y.getD k 0)) : canTo x y (k + 1) := fun j hj => by
  rcases Nat.lt_or_ge j k with h' | h'
  · exact h j h'
  · obtain rfl : j = k := by omega
    exact hk
def tossOk (x y : List Int) : Prop := 1 ≤ x.length ∧ x.length ≤ 5 ∧ y.length = x.length ∧ canTo x y x.length
instance (x y : List Int) : Decidable (tossOk x y) := by unfold tossOk; infer_instance
def tossC (x y : List Int) (k : Nat) : List Int := (List.range k).map fun j => commitI (x.getD j 0) (y.getD j 0)
theorem tossC_next (x y : List Int) (k : Nat) : tossC x y (k + 1) = tossC x y k ++ [commitI (x.getD k 0) (y.getD k 0)] := by simp [tossC, List.range_succ]
theorem tossC_length (x y : List Int) (k : Nat) : (tossC x y k).length = k := by simp [tossC]
theorem take_next {x : List Int} {k : Nat} (h : k < x.length) : x.take (k + 1) = x.take k ++ [x.getD k 0] := by
  rw [List.take_add_one, List.getD_eq_getElem?_getD, List.getElem?_eq_getElem h]
  rfl
def tX (x y : List Int) : List Int := if tossOk x y then x else []
def tY (x y : List Int) : List Int := if tossOk x y then y else []
def tZ (x y : List Int) : List Int := if tossOk x y then tossC x y x.length else []
/-- A toss of slices of the call's own, and whether it is one. -/
def TossMade (x y : List Int) (w : World) (e : Ending) (w' : World) : Prop :=
  ∃ (A0 A1 A2 : Option Addr) (c0 c1 c2 n : Nat), e = .returned (.tuple #[.agg #[.slice A0 n c0, .slice A1 n c1, .slice A2 n c2], .bool (decide (tossOk x y))]) ∧
    OwnToss w.heap.size w'.heap.size w' (.slice A0 n c0) (.slice A1 n c1) (.slice A2 n c2) n n n (tX x y) (tY x y) (tZ x y) ∧ n ≤ 5 ∧ Below w.heap.size w w'
theorem TossMade.no {x y : List Int} {w w' : World} (h : ¬ tossOk x y) (hb : Below w.heap.size w w') : TossMade x y w (.returned (.tuple #[.agg #[.slice none 0 0, .slice none 0 0, .slice none 0 0], .bool false])) w' := by
  refine ⟨none, none, none, 0, 0, 0, 0, by rw [decide_eq_false h], ?_, by omega, hb⟩
  rw [tX, tY, tZ, if_neg h, if_neg h, if_neg h]
  exact OwnToss.nil _ _ _
theorem TossMade.yes {x y : List Int} {w w' : World} {A0 A1 A2 : Option Addr} {c0 c1 c2 n : Nat} (h : tossOk x y) (hn : x.length = n)
    (ho : OwnToss w.heap.size w'.heap.size w' (.slice A0 n c0) (.slice A1 n c1) (.slice A2 n c2) n n n (x.take n) (y.take n) (tossC x y n)) (hb : Below w.heap.size w w') :
    TossMade x y w (.returned (.tuple #[.agg #[.slice A0 n c0, .slice A1 n c1, .slice A2 n c2], .bool true])) w' := by
  subst hn
  refine ⟨A0, A1, A2, c0, c1, c2, x.length, by rw [decide_eq_true h], ?_, h.2.1, hb⟩
  rw [tX, tY, tZ, if_pos h, if_pos h, if_pos h]
  rw [List.take_of_length_le (Nat.le_refl _), List.take_of_length_le (Nat.le_of_eq h.2.2.1)] at ho
  exact ho
/-- The toss that is being made, in a box behind the box of the result. -/
structure TossBox (w wr : World) (rs : Array Value) (v0 v1 v2 : Value) (n0 n1 n2 : Nat) (z0 z1 z2 : List Int) : Prop where
  two : Bx2 w wr 31 rs 31 #[v0, v1, v2]
  own : OwnToss (w.heap.size + 1 + 1) wr.heap.size wr v0 v1 v2 n0 n1 n2 z0 z1 z2
section
variable {w wr w2 : World} {rs : Array Value} {v0 v1 v2 : Value} {n0 n1 n2 n g cap : Nat} {z0 z1 z2 : List Int} {o : Obj} {x : Int}
theorem TossBox.bx (h : TossBox w wr rs v0 v1 v2 n0 n1 n2 z0 z1 z2) {u : Value} {zs : List Int} (hu : OwnI (w.heap.size + 1 + 1) wr.heap.size wr u n zs) (hg : (wr.alloc o).grownBy w2 u.ownBlock) : Bx2 w w2 31 rs 31 #[v0, v1, v2] :=
  (h.two.next ((Below.refl _ _).alloc (Nat.le_refl _) o)).mid (lo := w.heap.size + 1 + 1) (hi := wr.heap.size) (Mid.of_grown hg fun k e => hu.ltB e) (by omega)
theorem app_top {u : Value} {zs : List Int} (hu : OwnI (w.heap.size + 1 + 1) wr.heap.size wr u n zs) : ∀ k, u.ownBlock = some k → k < wr.heap.size + 1 := fun k e => by have := hu.top k e; omega
theorem TossBox.app0 (h : TossBox w wr rs v0 v1 v2 n0 n1 n2 z0 z1 z2) (ho : w2.ownsRow (w.heap.size + 1 + 1) 3 1 (.slice (some ⟨g, 0, none⟩) (n0 + 1) cap) (n0 + 1) (intVals (z0 ++ [x])))
    (hg : (wr.alloc o).grownBy w2 v0.ownBlock) (hat : v0.ownBlock = some g ∨ g = wr.heap.size + 1) :
    TossBox w (w2.setCell ⟨w.heap.size + 1, 0, none⟩ (.slice (some ⟨g, 0, none⟩) (n0 + 1) cap)) rs (.slice (some ⟨g, 0, none⟩) (n0 + 1) cap) v1 v2 (n0 + 1) n1 n2 (z0 ++ [x]) z1 z2 := by
  have hs : wr.heap.size ≤ w2.heap.size := by have := hg.size; simp at this; omega
  refine ⟨(h.bx h.own.o0 hg).setRes 0 _, ⟨?_, ?_, ?_, apart_app h.own.a01 (app_top h.own.o1) hat, apart_app h.own.a02 (app_top h.own.o2) hat, h.own.a12⟩⟩
  · exact ((OwnI.of_own ho).setFar (by omega) _).wide (Nat.le_refl _) (by simp)
  · exact (((h.own.o1.alloc o).keep hg h.own.a01.symm).setFar (by omega) _).wide (Nat.le_refl _) (by simp; omega)
  · exact (((h.own.o2.alloc o).keep hg h.own.a02.symm).setFar (by omega) _).wide (Nat.le_refl _) (by simp; omega)
theorem TossBox.app1 (h : TossBox w wr rs v0 v1 v2 n0 n1 n2 z0 z1 z2) (ho : w2.ownsRow (w.heap.size + 1 + 1) 3 1 (.slice (some ⟨g, 0, none⟩) (n1 + 1) cap) (n1 + 1) (intVals (z1 ++ [x])))
    (hg : (wr.alloc o).grownBy w2 v1.ownBlock) (hat : v1.ownBlock = some g ∨ g = wr.heap.size + 1) :
    TossBox w (w2.setCell ⟨w.heap.size + 1, 1, none⟩ (.slice (some ⟨g, 0, none⟩) (n1 + 1) cap)) rs v0 (.slice (some ⟨g, 0, none⟩) (n1 + 1) cap) v2 n0 (n1 + 1) n2 z0 (z1 ++ [x]) z2 := by
  have hs : wr.heap.size ≤ w2.heap.size := by have := hg.size; simp at this; omega
  refine ⟨(h.bx h.own.o1 hg).setRes 1 _, ⟨?_, ?_, ?_, (apart_app h.own.a01.symm (app_top h.own.o0) hat).symm, h.own.a02, apart_app h.own.a12 (app_top h.own.o2) hat⟩⟩
  · exact (((h.own.o0.alloc o).keep hg h.own.a01).setFar (by omega) _).wide (Nat.le_refl _) (by simp; omega)
  · exact ((OwnI.of_own ho).setFar (by omega) _).wide (Nat.le_refl _) (by simp)
  · exact (((h.own.o2.alloc o).keep hg h.own.a12.symm).setFar (by omega) _).wide (Nat.le_refl _) (by simp; omega)
theorem TossBox.app2 (h : TossBox w wr rs v0 v1 v2 n0 n1 n2 z0 z1 z2) (ho : w2.ownsRow (w.heap.size + 1 + 1) 3 1 (.slice (some ⟨g, 0, none⟩) (n2 + 1) cap) (n2 + 1) (intVals (z2 ++ [x])))
    (hg : (wr.alloc o).grownBy w2 v2.ownBlock) (hat : v2.ownBlock = some g ∨ g = wr.heap.size + 1) :
    TossBox w (w2.setCell ⟨w.heap.size + 1, 2, none⟩ (.slice (some ⟨g, 0, none⟩) (n2 + 1) cap)) rs v0 v1 (.slice (some ⟨g, 0, none⟩) (n2 + 1) cap) n0 n1 (n2 + 1) z0 z1 (z2 ++ [x]) := by
  have hs : wr.heap.size ≤ w2.heap.size := by have := hg.size; simp at this; omega
  refine ⟨(h.bx h.own.o2 hg).setRes 2 _, ⟨?_, ?_, ?_, h.own.a01, (apart_app h.own.a02.symm (app_top h.own.o0) hat).symm, (apart_app h.own.a12.symm (app_top h.own.o1) hat).symm⟩⟩
  · exact (((h.own.o0.alloc o).keep hg h.own.a02).setFar (by omega) _).wide (Nat.le_refl _) (by simp; omega)
  · exact (((h.own.o1.alloc o).keep hg h.own.a12).setFar (by omega) _).wide (Nat.le_refl _) (by simp; omega)
  · exact ((OwnI.of_own ho).setFar (by omega) _).wide (Nat.le_refl _) (by simp)
theorem TossBox.drew (h : TossBox w wr rs v0 v1 v2 n0 n1 n2 z0 z1 z2) : TossBox w wr.drew rs v0 v1 v2 n0 n1 n2 z0 z1 z2 := ⟨⟨h.two.arg, h.two.res, h.two.low.drew⟩, h.own.drew⟩
theorem TossBox.drewN (h : TossBox w wr rs v0 v1 v2 n0 n1 n2 z0 z1 z2) (k : Nat) : TossBox w (wr.drewN k) rs v0 v1 v2 n0 n1 n2 z0 z1 z2 := ⟨⟨h.two.arg, h.two.res, below_drewN h.two.low k⟩, h.own.drewN k⟩
end
set_option maxHeartbeats 1000000 in
theorem impl_TossNew (A B : Option Addr) (n c m d : Nat) (x y : List Int) (w : World) (hx : Ints w A x) (hy : Ints w B y) (lx : x.length = n) (ly : y.length = m) (mx : n ≤ 2000000) (my : m ≤ 2000000) :
    Calls Try.prog 16 #[.slice A n c, .slice B m d] w (TossMade x y w) := by
  have hok : tossOk x y ↔ 1 ≤ n ∧ n ≤ 5 ∧ m = n ∧ canTo x y n := by unfold tossOk; rw [lx, ly]
  have LX := Lib.hid lx
  have LY := Lib.hid ly
  clear lx ly
  by_cases hp : (1 : Int) ≤ n ∧ (n : Int) ≤ 5
  · by_cases hnm : m = n
    · subst hnm
      have t0 : TossBox w ((w.alloc (.cells #[.slice none 0 0, .slice none 0 0, .slice none 0 0] 31)).alloc (.cells #[.slice none 0 0, .slice none 0 0, .slice none 0 0] 31)) #[.slice none 0 0, .slice none 0 0, .slice none 0 0] (.slice none 0 0) (.slice none 0 0) (.slice none 0 0) 0 0 0 [] [] [] :=
        ⟨Bx2.start _ _ _ _ _, OwnToss.nil _ _ _⟩
      have hp' := decide_eq_true hp
      obtain ⟨hp0, hp1⟩ := hp
      go_enter Try.func16, Try.ntmps16
      go_wp2_with fail
      refine (impl_partiesOk m true hp' _).mono ?_
      rintro e w1 ⟨rfl, rfl⟩
      go_wp2_with fail
      go_loopw [25] (fun i wr => ∃ (k : Nat) (v0 v1 v2 : Value), k ≤ m ∧ i = .int .i64 k ∧ Hid (canTo x y k) ∧ TossBox w wr #[.slice none 0 0, .slice none 0 0, .slice none 0 0] v0 v1 v2 k k k (x.take k) (y.take k) (tossC x y k)) (fun i _ => m - (intOf i).toNat)
      case atStart => exact ⟨0, _, _, _, Nat.zero_le _, rfl, fun j hj => by omega, t0⟩
      case round =>
        obtain ⟨k, v0, v1, v2, hk, rfl, hc, tb⟩ := hrel
        clear t0
        by_cases hlt : k < m
        · obtain ⟨p0, q0, rfl, _, c0⟩ := (hx.bound.below tb.two.low).at_ (j := k) (by rw [LX.out]; exact hlt)
          obtain ⟨p1, q1, rfl, _, c1⟩ := (hy.bound.below tb.two.low).at_ (j := k) (by rw [LY.out]; exact hlt)
          have Nx := Lib.hid (take_next (x := x) (k := k) (by rw [LX.out]; exact hlt))
          have Ny := Lib.hid (take_next (x := y) (k := k) (by rw [LY.out]; exact hlt))
          have Nz := Lib.hid (tossC_next x y k)
          have hnext : canC (x.getD k 0) (y.getD k 0) → canTo x y (k + 1) := canTo_next hc.out
          have hprev : canTo x y m → canC (x.getD k 0) (y.getD k 0) := fun h => h k hlt
          generalize x.getD k 0 = vx at c0 Nx Nz hnext hprev
          generalize y.getD k 0 = vy at c1 Ny Nz hnext hprev
          have hk0 : (0 : Int) ≤ k := by omega
          have hk1 : (k : Int) < m := by omega
          have Hx := Lib.hid hx
          have Hy := Lib.hid hy
          have Hprev := Lib.hid hprev
          have Hnext := Lib.hid hnext
          have Tb := Lib.hid tb
          clear hx hy hprev hnext tb
          go_wp2_with fail
          go_quiet (fail)
          go_wp2_with fail
          have tb := Tb.out.drewN nq
          generalize wr.drewN nq = wx at *
          refine (impl_canCommit vx vy _ rfl wx).mono ?_
          rintro e w1 ⟨rfl, rfl⟩
          by_cases hcan : canC vx vy
          · rw [decide_eq_true hcan]
            have Hn := Lib.hid (Hnext.out hcan)
            clear hcan c0 c1 Hprev Hnext
            obtain ⟨a0, _⟩ := blk (i := 0) tb.two.res rfl
            obtain ⟨a1, _⟩ := blk (i := 1) tb.two.res rfl
            obtain ⟨a2, _⟩ := blk (i := 2) tb.two.res rfl
            have hown := tb.own.o0.own.alloc (.cells #[.int .i64 vx] 3)
            have hs := tb.two.lt
            go_wp2_with (first | (at_builtin; refine app_list (e' := 3) elemInt rfl _ _ rfl (w.heap.size + 1 + 1) v0 k (intVals (x.take k)) rfl hown wx.heap.size 1 1 _ (0, 0) rfl (heap_alloc_new wx _) rfl (oneCell_i64 [_]) (by omega) (by unfold maxLen; omega) (by omega) (by simp; omega) (wx.heap.size + 1) (by simp) ?_))
            intro g1 e1 w2 ho2 hg2 hat2 hl2
            have tb2 := tb.app0 (x := vx) (by simpa [intVals] using ho2) hg2 hat2
            have bx2 := tb.bx tb.own.o0 hg2
            clear a0 a1 a2 hown ho2 hg2 hat2 hl2 tb hs
            obtain ⟨a0, f0⟩ := blk (i := 0) bx2.res rfl
            obtain ⟨a1, _⟩ := blk (i := 1) bx2.res rfl
            obtain ⟨a2, _⟩ := blk (i := 2) bx2.res rfl
            have hs := tb2.two.lt
            have hown := tb2.own.o1.own.alloc (.cells #[.int .i64 vy] 3)
            clear bx2
            go_wp2_with (first | (at_builtin; refine app_list (e' := 3) elemInt rfl _ _ rfl (w.heap.size + 1 + 1) v1 k (intVals (y.take k)) rfl hown w2.heap.size 1 1 _ (0, 0) rfl (new_at _ _ _ (by simp)) rfl (oneCell_i64 [_]) (by omega) (by unfold maxLen; omega) (by omega) (by simp at hs ⊢; omega) _ rfl ?_))
            intro g2 e2 w3 ho3 hg3 hat3 hl3
            have tb3 := tb2.app1 (x := vy) (by simpa [intVals] using ho3) hg3 (by simpa using hat3)
            have bx3 := tb2.bx tb2.own.o1 hg3
            clear a0 a1 a2 f0 hown ho3 hg3 hat3 hl3 tb2 hs
            obtain ⟨a0, _⟩ := blk (i := 0) bx3.res rfl
            obtain ⟨a1, f1⟩ := blk (i := 1) bx3.res rfl
            obtain ⟨a2, _⟩ := blk (i := 2) bx3.res rfl
            clear bx3
            go_wp2_with fail
            generalize w3.setCell ⟨w.heap.size + 1, 1, none⟩ (.slice (some ⟨g2, 0, none⟩) (k + 1) e2) = w4 at *
            obtain ⟨cv, hcv⟩ : ∃ cv, commitI vx vy = cv := ⟨_, rfl⟩
            have Hcv := Lib.hid hcv
            rw [hcv] at Nz
            clear hcv a0 a1 a2 f1
            have hs := tb3.two.lt
            have hown := tb3.own.o2.own
            obtain ⟨a2, f2⟩ := blk (i := 2) tb3.two.res rfl
            have a2' : (w4.alloc (.cells #[.int .i64 cv] 3)).drew.cell? ⟨w.heap.size + 1, 2, none⟩ = some v2 := (blk (i := 2) (heap_alloc tb3.two.res _) rfl).1
            go_region_law (first | (refine app_step (e' := 3) elemInt (by rfl) _ _ (by rfl) (w.heap.size + 1 + 1) v2 k (intVals (tossC x y k)) (by rfl) ((hown.alloc _).drew) w4.heap.size 1 1 _ (0, 0) (by rfl) (heap_alloc_new w4 _) (by rfl) (oneCell_i64 [_]) (by omega) (by unfold maxLen; omega) (by omega) (by simp; omega) (w4.heap.size + 1) (by simp) ?_; intro g3 e3 w5 ho5 hg5 hat5 hl5; (have bx5 := tb3.bx (o := .cells #[.int .i64 cv] 3) tb3.own.o2 ⟨hg5.os, hg5.tape, hg5.output, hg5.size, hg5.block⟩); (obtain ⟨a5, f5⟩ := blk (i := 2) bx5.res rfl)) | (go_simp; go_at_call 13; (with_reducible refine (impl_Commit_is vx vy cv Hcv.out _).mono ?_); rintro e w' ⟨rfl, rfl⟩))
            all_goals
              have tb5 := tb3.app2 (x := cv) (o := .cells #[.int .i64 cv] 3) (by simpa [intVals] using ho5) ⟨hg5.os, hg5.tape, hg5.output, hg5.size, hg5.block⟩ hat5
              rw [← Nx.out, ← Ny.out, ← Nz.out] at tb5
              have Tb5 := Lib.hid tb5
              clear tb5 bx5 a2 f2 a2' tb3 ho5 hg5 hat5 hown hl5
              go_wp2_with fail
              go_roundw
              case rel => exact ⟨k + 1, _, _, _, by omega, by go_num, Hn, Tb5.out⟩
              case measure => simp [intOf]; omega
          · rw [decide_eq_false hcan]
            have Hno := Lib.hid (show ¬ tossOk x y from fun e => hcan (Hprev.out (hok.1 e).2.2.2))
            obtain ⟨_, f0⟩ := blk (i := 0) tb.two.arg rfl
            obtain ⟨_, f1⟩ := blk (i := 1) tb.two.arg rfl
            obtain ⟨_, f2⟩ := blk (i := 2) tb.two.arg rfl
            have hz := ((tb.two.setArg 0 (.slice none 0 0)).setArg 1 (.slice none 0 0)).setArg 2 (.slice none 0 0)
            clear hcan c0 c1 Hprev Hnext hok tb
            go_wp2_with fail
            (try simp only [Exit.inBlock, Exit.then])
            refine bodyPost_ret (results_cell_tmp_row (P := Try.prog) rfl _ _ _ w.heap.size 31 _ (0, 0) _ rfl rfl hz.arg Try.underlying31 rfl (by kernel_rfl)) rfl ?_
            exact TossMade.no Hno.out hz.low
        · obtain rfl : k = m := by omega
          have Hy := Lib.hid (hok.2 ⟨by omega, by omega, by first | trivial | rfl, hc.out⟩)
          obtain ⟨A0, d0, rfl⟩ := tb.own.o0.form
          obtain ⟨A1, d1, rfl⟩ := tb.own.o1.form
          obtain ⟨A2, d2, rfl⟩ := tb.own.o2.form
          obtain ⟨_, f0⟩ := blk (i := 0) tb.two.arg rfl
          obtain ⟨_, f1⟩ := blk (i := 1) tb.two.arg rfl
          obtain ⟨_, f2⟩ := blk (i := 2) tb.two.arg rfl
          obtain ⟨a0, _⟩ := blk (i := 0) tb.two.res rfl
          obtain ⟨a1, _⟩ := blk (i := 1) tb.two.res rfl
          obtain ⟨a2, _⟩ := blk (i := 2) tb.two.res rfl
          have hz := ((tb.two.setArg 0 (.slice A0 k d0)).setArg 1 (.slice A1 k d1)).setArg 2 (.slice A2 k d2)
          have ho := ((((tb.own.setFar (g := w.heap.size) (i := 0) (by omega) (.slice A0 k d0)).setFar (g := w.heap.size) (i := 1) (by omega) (.slice A1 k d1)).setFar (g := w.heap.size) (i := 2) (by omega) (.slice A2 k d2)).wide (lo' := w.heap.size) (by omega) (Nat.le_refl _))
          have Ho := Lib.hid ho
          clear hok tb ho hx hy
          go_wp2_with fail
          (try simp only [Exit.inBlock, Exit.then])
          refine bodyPost_ret (results_cell_tmp_row (P := Try.prog) rfl _ _ _ w.heap.size 31 _ (0, 0) _ rfl rfl hz.arg Try.underlying31 rfl (by kernel_rfl)) rfl ?_
          exact TossMade.yes Hy.out LX.out (Ho.out.wide (Nat.le_refl _) (by simp)) hz.low
    · have Hno := Lib.hid (show ¬ tossOk x y from fun e => hnm (hok.1 e).2.2.1)
      have hne : ((m : Int) == (n : Int)) = false := beq_eq_false_iff_ne.2 (by omega)
      have hp' := decide_eq_true hp
      clear hok hnm
      go_enter Try.func16, Try.ntmps16
      go_wp2_with fail
      refine (impl_partiesOk n true hp' _).mono ?_
      rintro e w1 ⟨rfl, rfl⟩
      go_wp2_with fail
      go_returns
      exact TossMade.no Hno.out ((Below.refl _ _).alloc (Nat.le_refl _) _)
  · have Hno := Lib.hid (show ¬ tossOk x y from fun e => hp (by have := hok.1 e; omega))
    have hp' := decide_eq_false hp
    clear hok hp
    go_enter Try.func16, Try.ntmps16
    go_wp2_with fail
    refine (impl_partiesOk n false hp' _).mono ?_
    rintro e w1 ⟨rfl, rfl⟩
    go_wp2_with fail
    go_returns
    exact TossMade.no Hno.out ((Below.refl _ _).alloc (Nat.le_refl _) _)
end Go.Proofs.Ytedfblgopmiheaa
