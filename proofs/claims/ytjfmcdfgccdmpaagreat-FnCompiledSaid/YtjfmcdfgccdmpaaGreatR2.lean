/- StateNew: the program's and the model's. No condition. And what goes with it. -/
import Derived.Test.YtjfmcdfgccdmpaaGreatProg
import Derived.Test.YtjfmcdfgccdmpaaGreatSState
import Derived.Test.YtjfmcdfgccdmpaaGreatB1
import Derived.Test.YtjfmcdfgccdmpaaGreatR1
import Derived.Test.YtjfmcdfgccdmpaaGreatRunO
import Derived.Test.YtjfmcdfgccdmpaaGreatCloneI
import Derived.Test.YtjfmcdfgccdmpaaGreatB4
namespace Go.Proofs.YtjfmcdfgccdmpaaGreat
open Go Go.RowKit
theorem spec_StateNew (w : World) : Calls Tryz.prog 22 #[] w (Post_State (List.replicate 8 0) [] w) := by
  have b0 := heap_alloc_new w (.cells #[.slice none 0 0, .slice none 0 0] 60)
  have low := (Below.refl w.heap.size w).alloc (Nat.le_refl _) (.cells #[.slice none 0 0, .slice none 0 0] 60)
  go_enter Tryz.func22, Tryz.ntmps22
  go_wp2_with (first | (refine make_fullI Tryz.underlying29 infoInt rfl rfl _ _ rfl (w.heap.size + 1) _ _ _ _ 8 rfl rfl rfl rfl (by omega) (by unfold maxLen; omega) (by simp) ?_))
  intro w1 hown hg
  have b1 := heap_grown b0 hg (by simp)
  have low1 := low.grown hg low.size (fun k h => by cases h)
  obtain ⟨c0, f0⟩ := blk (i := 0) b1 rfl
  obtain ⟨c1, f1⟩ := blk (i := 1) b1 rfl
  have Ho := Lib.hid hown
  clear hown hg b0 low
  go_wp2_with fail
  have h0 : w1.ownsRow (w.heap.size + 1) 3 1 (.slice (some ⟨w.heap.size + 1, 0, none⟩) 8 8) 8 (intVals (List.replicate 8 0)) := Ho.out
  have ho := ((OwnA.of_own h0).setFar (g := w.heap.size) (i := 0) (by omega) (.slice (some ⟨w.heap.size + 1, 0, none⟩) 8 8)).setFar (g := w.heap.size) (i := 1) (by omega) (.slice none 0 0)
  have b2 := heap_set (i := 1) (heap_set (i := 0) b1 (.slice (some ⟨w.heap.size + 1, 0, none⟩) 8 8)) (.slice none 0 0)
  refine bodyPost_ret (results_cell_row (P := Tryz.prog) rfl _ _ w.heap.size 60 _ (0, 0) _ rfl b2 Tryz.underlying60 rfl (by kernel_rfl)) rfl ?_
  exact ⟨_, none, 8, 0, 8, 0, rfl, ⟨ho.wide (by omega) (by simp), OwnA.nil _ _ _ _, (apart.nil _ _ _).symm⟩, (low1.setCell (Nat.le_refl _) _).setCell (Nat.le_refl _) _⟩
end Go.Proofs.YtjfmcdfgccdmpaaGreat

namespace Go.Proofs.YtjfmcdfgccdmpaaGreat
open Go Go.RowKit
/-- A state in new memory, both its slices made as slices of ints. -/
def NewState (z0 z1 : List Int) (w : World) (e : Ending) (w' : World) : Prop :=
  ∃ (A0 A1 : Option Addr) (n0 n1 c0 c1 : Nat), e = .returned (.agg #[.slice A0 n0 c0, .slice A1 n1 c1]) ∧ OwnI w.heap.size w'.heap.size w' (.slice A0 n0 c0) n0 z0 ∧ OwnI w.heap.size w'.heap.size w' (.slice A1 n1 c1) n1 z1 ∧ apart (.slice A0 n0 c0) (.slice A1 n1 c1) ∧ Below w.heap.size w w'
set_option maxHeartbeats 2000000 in
theorem spec_l12Copy (A0 A1 : Option Addr) (c0 c1 n0 n1 : Nat) (rs os : List Int) (w : World) (h0 : Ints w A0 rs) (l0 : rs.length = n0) (m0 : n0 ≤ 2000000) (h1 : Ints w A1 os) (l1 : os.length = n1) (m1 : n1 ≤ 2000000) :
    Calls Tryz.prog 41 #[.agg #[.slice A0 n0 c0, .slice A1 n1 c1]] w (NewState rs os w) := by
  have k0 := Bx2.start w 60 #[.slice A0 n0 c0, .slice A1 n1 c1] 60 #[.slice none 0 0, .slice none 0 0]
  have L0 := Lib.hid l0
  have L1 := Lib.hid l1
  have i0 := h0.bound
  have i1 := h1.bound
  clear l0 l1 h0 h1
  go_enter Tryz.func41, Tryz.ntmps41
  go_wp2_with fail
  generalize hw0 : (w.alloc (.cells #[.slice A0 n0 c0, .slice A1 n1 c1] 60)).alloc (.cells #[.slice none 0 0, .slice none 0 0] 60) = w0 at *
  clear hw0
  have f1 := heap_alloc_new w0 (.cells #[] 3)
  have f2 := heap_alloc f1 (.cells #[] 3)
  have f3 : ((w0.alloc (.cells #[] 3)).alloc (.cells #[] 3)).heap[w0.heap.size + 1]? = some (.cells #[] 3 (0, 0)) := by
    have h := heap_alloc_new (w0.alloc (.cells #[] 3)) (.cells #[] 3)
    simpa using h
  have b1 : Below w0.heap.size w0 (w0.alloc (.cells #[] 3)) := (Below.refl _ _).alloc (Nat.le_refl _) _
  have b2 : Below w0.heap.size w0 ((w0.alloc (.cells #[] 3)).alloc (.cells #[] 3)) := b1.alloc (by simp) _
  have hs := k0.lt
  have j0 := (i0.below k0.low).ints k0.low.size
  have j1 := (i1.below k0.low).ints k0.low.size
  have x0 := (blk (i := 0) k0.arg rfl).1
  have x1 := (blk (i := 1) k0.arg rfl).1
  have x2 := cell_on x0 b1
  have x3 := cell_on x1 b1
  have x4 := cell_on x0 b2
  have x5 := cell_on x1 b2
  have d1 := b1.drew
  have d2 := b2.drew
  go_region_held3 (fun w' => w'.cell? ⟨w.heap.size, 0, none⟩ = some (.slice A0 n0 c0) ∧ w'.cell? ⟨w.heap.size, 1, none⟩ = some (.slice A1 n1 c1)) (first | exact ⟨x0, x1⟩ | exact ⟨x2, x3⟩ | exact ⟨x4, x5⟩ | (refine ⟨?_, ?_⟩ <;> first | assumption | exact far_two (by assumption) (by simp) _ _)) (first
    | (refine step_app_ints elemInt (by rfl) (.tmp 3) (.tmp 5) (by rfl) w0.heap.size (.slice (some ⟨w0.heap.size, 0, none⟩) 0 0) 0 [] (by rfl) (own_nil f1 (Nat.le_refl _)) A0 n0 c0 rs (by rfl) (j0.below d1) L0.out (by unfold maxLen; omega) (by omega) (by simp <;> omega) ?_; intro v5 w5 ho5 hg5 hat5; (obtain ⟨A5, q5, c5, rfl, hq5⟩ := ownsRow_slice ho5); (have b5 : Below w0.heap.size w0 w5 := Below.grown d1 hg5 (by simp <;> omega) (fun k e => own_ge (by omega) e)); (have y0 := cell_on x0 b5); (have y1 := cell_on x1 b5); (have lt5 := ho5.lt); (have p5 : ∀ k, (Value.slice A5 q5 c5).ownBlock = some k → True ∧ k < w5.heap.size := fun k e => ⟨by first | trivial | (have h1 := at_or hat5 e; simp at h1; omega), (lt5 k e).2⟩); (have O5 := OwnI.of_own (zs := rs) ho5); (have z0 := cell_on x0 (b5.alloc b5.size (.cells #[] 3))); (have z1 := cell_on x1 (b5.alloc b5.size (.cells #[] 3))); (have g5 := b5.alloc b5.size (.cells #[] 3)))
    | (refine step_app_ints elemInt (by rfl) (.tmp 3) (.tmp 5) (by rfl) w0.heap.size (.slice (some ⟨w0.heap.size, 0, none⟩) 0 0) 0 [] (by rfl) (own_nil f2 (Nat.le_refl _)) A0 n0 c0 rs (by rfl) (j0.below d2) L0.out (by unfold maxLen; omega) (by omega) (by simp <;> omega) ?_; intro v5 w5 ho5 hg5 hat5; (obtain ⟨A5, q5, c5, rfl, hq5⟩ := ownsRow_slice ho5); (have b5 : Below w0.heap.size w0 w5 := Below.grown d2 hg5 (by simp <;> omega) (fun k e => own_ge (by omega) e)); (have y0 := cell_on x0 b5); (have y1 := cell_on x1 b5); (have lt5 := ho5.lt); (have p5 : ∀ k, (Value.slice A5 q5 c5).ownBlock = some k → (k = w0.heap.size ∨ k = w0.heap.size + 2) ∧ k < w5.heap.size := fun k e => ⟨by first | trivial | (have h1 := at_or hat5 e; simp at h1; omega), (lt5 k e).2⟩); (have O5 := OwnI.of_own (zs := rs) ho5); (have r2 := heap_grown (w := ((w0.alloc (.cells #[] 3)).alloc (.cells #[] 3)).drew) f3 hg5 (by simp [Value.ownBlock])))
    | (refine step_app_ints elemInt (by rfl) (.tmp 3) (.tmp 5) (by rfl) w0.heap.size (.slice (some ⟨w0.heap.size + 1, 0, none⟩) 0 0) 0 [] (by rfl) (own_nil f3 (by simp)) A0 n0 c0 rs (by rfl) (j0.below d2) L0.out (by unfold maxLen; omega) (by omega) (by simp <;> omega) ?_; intro v5 w5 ho5 hg5 hat5; (obtain ⟨A5, q5, c5, rfl, hq5⟩ := ownsRow_slice ho5); (have b5 : Below w0.heap.size w0 w5 := Below.grown d2 hg5 (by simp <;> omega) (fun k e => own_ge (by omega) e)); (have y0 := cell_on x0 b5); (have y1 := cell_on x1 b5); (have lt5 := ho5.lt); (have p5 : ∀ k, (Value.slice A5 q5 c5).ownBlock = some k → (k = w0.heap.size + 1 ∨ k = w0.heap.size + 2) ∧ k < w5.heap.size := fun k e => ⟨by first | trivial | (have h1 := at_or hat5 e; simp at h1; omega), (lt5 k e).2⟩); (have O5 := OwnI.of_own (zs := rs) ho5); (have r3 := heap_grown (w := ((w0.alloc (.cells #[] 3)).alloc (.cells #[] 3)).drew) f2 hg5 (by simp [Value.ownBlock])))
    | (refine step_app_ints elemInt (by rfl) (.tmp 7) (.tmp 9) (by rfl) w0.heap.size (.slice (some ⟨w5.heap.size, 0, none⟩) 0 0) 0 [] (by rfl) (own_nil (heap_alloc_new w5 _) b5.size) A1 n1 c1 os (by rfl) (j1.below g5) L1.out (by unfold maxLen; omega) (by omega) (by have := b5.size; simp <;> omega) ?_; intro v7 w7 ho7 hg7 hat7; (obtain ⟨A7, q7, c7, rfl, hq7⟩ := ownsRow_slice ho7); (have b7 : Below w0.heap.size w0 w7 := Below.grown g5 hg7 (by have := b5.size; simp <;> omega) (fun k e => own_ge (by have := b5.size; omega) e)); (have k7 := k0.next b7); (have u0 := cell_on x0 b7); (have u1 := cell_on x1 b7); (obtain ⟨y2, f2'⟩ := blk (i := 0) k7.res rfl); (obtain ⟨y3, f3'⟩ := blk (i := 1) k7.res rfl); (have O7 := OwnI.of_own (zs := os) ho7); (have ap := apart_or hat7 (fun k e => by have := p5 k e; simp <;> omega)); (have z7 := hg7.size); (have O6 := OwnI.keep (O5.alloc (.cells #[] 3)) hg7 (apart_at (fun k e => by have := p5 k e; omega))))
    | (refine step_app_ints elemInt (by rfl) (.tmp 7) (.tmp 9) (by rfl) w0.heap.size (.slice (some ⟨w0.heap.size + 1, 0, none⟩) 0 0) 0 [] (by rfl) (own_nil r2 (by omega)) A1 n1 c1 os (by rfl) (j1.below b5) L1.out (by unfold maxLen; omega) (by omega) (by have := b5.size; simp <;> omega) ?_; intro v7 w7 ho7 hg7 hat7; (obtain ⟨A7, q7, c7, rfl, hq7⟩ := ownsRow_slice ho7); (have b7 : Below w0.heap.size w0 w7 := Below.grown b5 hg7 (by have := b5.size; simp <;> omega) (fun k e => own_ge (by have := b5.size; omega) e)); (have k7 := k0.next b7); (have u0 := cell_on x0 b7); (have u1 := cell_on x1 b7); (obtain ⟨y2, f2'⟩ := blk (i := 0) k7.res rfl); (obtain ⟨y3, f3'⟩ := blk (i := 1) k7.res rfl); (have O7 := OwnI.of_own (zs := os) ho7); (have ap := apart_or hat7 (fun k e => by have := p5 k e; simp <;> omega)); (have z7 := hg7.size); (have O6 := OwnI.keep (O5) hg7 (apart_at (fun k e => by have := p5 k e; omega))))
    | (refine step_app_ints elemInt (by rfl) (.tmp 7) (.tmp 9) (by rfl) w0.heap.size (.slice (some ⟨w0.heap.size, 0, none⟩) 0 0) 0 [] (by rfl) (own_nil r3 (Nat.le_refl _)) A1 n1 c1 os (by rfl) (j1.below b5) L1.out (by unfold maxLen; omega) (by omega) (by have := b5.size; simp <;> omega) ?_; intro v7 w7 ho7 hg7 hat7; (obtain ⟨A7, q7, c7, rfl, hq7⟩ := ownsRow_slice ho7); (have b7 : Below w0.heap.size w0 w7 := Below.grown b5 hg7 (by have := b5.size; simp <;> omega) (fun k e => own_ge (by have := b5.size; omega) e)); (have k7 := k0.next b7); (have u0 := cell_on x0 b7); (have u1 := cell_on x1 b7); (obtain ⟨y2, f2'⟩ := blk (i := 0) k7.res rfl); (obtain ⟨y3, f3'⟩ := blk (i := 1) k7.res rfl); (have O7 := OwnI.of_own (zs := os) ho7); (have ap := apart_or hat7 (fun k e => by have := p5 k e; simp <;> omega)); (have z7 := hg7.size); (have O6 := OwnI.keep (O5) hg7 (apart_at (fun k e => by have := p5 k e; omega)))))
  all_goals
    have r7 := heap_set (i := 1) (heap_set (i := 0) k7.res (.slice A5 q5 c5)) (.slice A7 q7 c7)
    have l7 := (k7.low.setCell (p := ⟨w.heap.size + 1, 0, none⟩) (by simp) (.slice A5 q5 c5)).setCell (p := ⟨w.heap.size + 1, 1, none⟩) (by simp) (.slice A7 q7 c7)
    have t7 := b5.size
    have HQ := Lib.hid (show n0 = q5 ∧ n1 = q7 by omega)
    have OO : Hid (OwnI w.heap.size w7.heap.size ((w7.setCell ⟨w.heap.size + 1, 0, none⟩ (.slice A5 q5 c5)).setCell ⟨w.heap.size + 1, 1, none⟩ (.slice A7 q7 c7)) (.slice A5 q5 c5) q5 rs ∧ OwnI w.heap.size w7.heap.size ((w7.setCell ⟨w.heap.size + 1, 0, none⟩ (.slice A5 q5 c5)).setCell ⟨w.heap.size + 1, 1, none⟩ (.slice A7 q7 c7)) (.slice A7 q7 c7) q7 os ∧ apart (.slice A5 q5 c5) (.slice A7 q7 c7)) := by
      obtain ⟨e5, e7⟩ := HQ.out
      subst e5 e7
      refine Lib.hid ⟨?_, ?_, ap⟩
      · have h := (O6.setFar (g := w.heap.size + 1) (i := 0) hs (.slice A5 n0 c5)).setFar (g := w.heap.size + 1) (i := 1) hs (.slice A7 n1 c7)
        rw [Nat.zero_add] at h
        exact h.wide (by omega) (by first | omega | (simp at z7; omega))
      · have h := (O7.setFar (g := w.heap.size + 1) (i := 0) hs (.slice A5 n0 c5)).setFar (g := w.heap.size + 1) (i := 1) hs (.slice A7 n1 c7)
        rw [Nat.zero_add] at h
        exact h.wide (by omega) (Nat.le_refl _)
    have R7 := Lib.hid r7
    have LL := Lib.hid l7
    clear O6 O7 O5 ap p5 lt5 hat7 hg7 ho7 hat5 hg5 ho5 b7 r7 l7 k7
    go_wp2_with fail
    refine bodyPost_ret (results_cell_row (P := Tryz.prog) rfl _ _ (w.heap.size + 1) 60 _ (0, 0) _ rfl R7.out Tryz.underlying60 rfl (by kernel_rfl)) rfl ?_
    exact ⟨_, _, _, _, _, _, rfl, OO.out.1.wide (Nat.le_refl _) (by simp), OO.out.2.1.wide (Nat.le_refl _) (by simp), OO.out.2.2, LL.out⟩
end Go.Proofs.YtjfmcdfgccdmpaaGreat

namespace Go.Proofs.YtjfmcdfgccdmpaaGreat
open Go Go.RowKit
/-- The three boxes of StepState: the state, the statement, the result. -/
structure Bx3S (w wr : World) (fs ss rs : Array Value) : Prop where
  f : wr.heap[w.heap.size]? = some (.cells fs 60 (0, 0))
  s : wr.heap[w.heap.size + 1]? = some (.cells ss 49 (0, 0))
  r : wr.heap[w.heap.size + 2]? = some (.cells rs 60 (0, 0))
  low : Below w.heap.size w wr
theorem Bx3S.start (w : World) (fs ss rs : Array Value) : Bx3S w (((w.alloc (.cells fs 60)).alloc (.cells ss 49)).alloc (.cells rs 60)) fs ss rs := by
  have b := Bx3.start w 60 fs 49 ss 60 rs
  exact ⟨b.two.arg, b.two.res, b.out, b.two.low⟩
theorem Bx3S.next {w wr w1 : World} {fs ss rs : Array Value} (h : Bx3S w wr fs ss rs) (hb : Below wr.heap.size wr w1) : Bx3S w w1 fs ss rs :=
  ⟨heap_below h.f hb, heap_below h.s hb, heap_below h.r hb, h.low.trans (hb.mono h.low.size)⟩
theorem Bx3S.lt {w wr : World} {fs ss rs : Array Value} (h : Bx3S w wr fs ss rs) : w.heap.size + 2 < wr.heap.size := heap_lt h.r
theorem Bx3S.far {w wr : World} {fs ss rs : Array Value} (h : Bx3S w wr fs ss rs) {g : Nat} (hg : w.heap.size + 2 < g) (i : Nat) (v : Value) : Bx3S w (wr.setCell ⟨g, i, none⟩ v) fs ss rs :=
  ⟨heap_far h.f (by simp; omega) v, heap_far h.s (by simp; omega) v, heap_far h.r (by simp; omega) v, h.low.setCell (by simp; omega) _⟩
theorem Bx3S.drew {w wr : World} {fs ss rs : Array Value} (h : Bx3S w wr fs ss rs) : Bx3S w wr.drew fs ss rs := ⟨h.f, h.s, h.r, h.low.drew⟩
theorem Bx3S.grown {w wr w1 : World} {fs ss rs : Array Value} {row : Option Nat} (h : Bx3S w wr fs ss rs) (hg : wr.grownBy w1 row) (hr : ∀ k, row = some k → w.heap.size + 2 < k) : Bx3S w w1 fs ss rs :=
  ⟨heap_grown h.f hg (fun e => by have := hr _ e; omega), heap_grown h.s hg (fun e => by have := hr _ e; omega), heap_grown h.r hg (fun e => by have := hr _ e; omega), h.low.grown hg h.low.size (fun k e => by have := hr k e; omega)⟩
/-- The copy: a struct in block g, its slices in blocks of their own. -/
structure Aft (w0 wr : World) (g : Nat) (v0 v1 : Value) (n0 n1 : Nat) (rs os : List Int) : Prop where
  low : Below w0.heap.size w0 wr
  ge : w0.heap.size ≤ g
  box : wr.heap[g]? = some (.cells #[v0, v1] 60 (0, 0))
  o0 : OwnI w0.heap.size wr.heap.size wr v0 n0 rs
  o1 : OwnI w0.heap.size wr.heap.size wr v1 n1 os
  ap : apart v0 v1
  f0 : v0.ownBlock ≠ some g
  f1 : v1.ownBlock ≠ some g
section
variable {w0 wr w1 : World} {g : Nat} {v0 v1 : Value} {n0 n1 : Nat} {rs os : List Int}
theorem Aft.next (h : Aft w0 wr g v0 v1 n0 n1 rs os) (hb : Below wr.heap.size wr w1) : Aft w0 w1 g v0 v1 n0 n1 rs os :=
  ⟨h.low.trans (hb.mono h.low.size), h.ge, heap_below h.box hb, (h.o0.below hb).wide (Nat.le_refl _) hb.size, (h.o1.below hb).wide (Nat.le_refl _) hb.size, h.ap, h.f0, h.f1⟩
theorem Aft.drew (h : Aft w0 wr g v0 v1 n0 n1 rs os) : Aft w0 wr.drew g v0 v1 n0 n1 rs os := ⟨h.low.drew, h.ge, h.box, h.o0.drew, h.o1.drew, h.ap, h.f0, h.f1⟩
theorem Aft.lt (h : Aft w0 wr g v0 v1 n0 n1 rs os) : g < wr.heap.size := heap_lt h.box
theorem OwnI.off {lo hi k : Nat} {v : Value} {n : Nat} {w : World} {zs : List Int} (h : OwnI lo hi w v n zs) (hk : k < lo ∨ hi ≤ k) : v.ownBlock ≠ some k := fun e => by
  have := h.ltB e
  omega
/-- The struct was made last. -/
theorem Aft.last {lo0 hi0 lo1 hi1 : Nat} (low : Below w0.heap.size w0 wr) (o0 : OwnI lo0 hi0 wr v0 n0 rs) (o1 : OwnI lo1 hi1 wr v1 n1 os) (l0 : w0.heap.size ≤ lo0) (l1 : w0.heap.size ≤ lo1) (t0 : hi0 ≤ wr.heap.size) (t1 : hi1 ≤ wr.heap.size) (ap : apart v0 v1) :
    Aft w0 (wr.alloc (.cells #[v0, v1] 60)) wr.heap.size v0 v1 n0 n1 rs os :=
  ⟨low.alloc low.size _, low.size, heap_alloc_new wr _, (o0.alloc _).wide l0 (by simp; omega), (o1.alloc _).wide l1 (by simp; omega), ap, o0.off (.inr t0), o1.off (.inr t1)⟩
/-- The struct was made before. -/
theorem Aft.early {lo0 hi0 lo1 hi1 : Nat} (low : Below w0.heap.size w0 wr) (hbox : wr.heap[g]? = some (.cells #[.slice none 0 0, .slice none 0 0] 60 (0, 0))) (hg : w0.heap.size ≤ g) (o0 : OwnI lo0 hi0 wr v0 n0 rs) (o1 : OwnI lo1 hi1 wr v1 n1 os) (l0 : w0.heap.size ≤ lo0) (l1 : w0.heap.size ≤ lo1) (t0 : hi0 ≤ wr.heap.size) (t1 : hi1 ≤ wr.heap.size) (ap : apart v0 v1) (d0 : g < lo0 ∨ hi0 ≤ g) (d1 : g < lo1 ∨ hi1 ≤ g) :
    Aft w0 ((wr.setCell ⟨g, 0, none⟩ v0).setCell ⟨g, 1, none⟩ v1) g v0 v1 n0 n1 rs os := by
  have far : ∀ {lo hi n : Nat} {v : Value} {zs : List Int} (w : World) (i : Nat) (u : Value), OwnI lo hi w v n zs → (g < lo ∨ hi ≤ g) → OwnI lo hi (w.setCell ⟨g, i, none⟩ u) v n zs := fun w i u o d => d.elim (fun h => o.setFar h u) (fun h => o.setFar' h u)
  refine ⟨(low.setCell (p := ⟨g, 0, none⟩) hg _).setCell (p := ⟨g, 1, none⟩) hg _, hg, ?_, (far _ _ _ (far _ _ _ o0 d0) d0).wide l0 (by simpa using t0), (far _ _ _ (far _ _ _ o1 d1) d1).wide l1 (by simpa using t1), ap, o0.off d0, o1.off d1⟩
  exact heap_set (i := 1) (heap_set (i := 0) hbox v0) v1
end
theorem low_fin : ∀ x : Fin 16, ((x.val : Int)).tmod 2 = bits .and .i64 (x.val : Int) 1 := by decide +kernel
theorem low_four {x : Int} (h : 0 ≤ x ∧ x ≤ 15) : x % 2 = bits .and .i64 x 1 := by
  have h2 := low_fin ⟨x.toNat, by omega⟩
  simp only [Int.toNat_of_nonneg h.1] at h2
  rw [← h2, Int.tmod_eq_emod_of_nonneg h.1]
theorem OwnI.setOff {lo hi k i n : Nat} {v : Value} {w : World} {zs : List Int} (h : OwnI lo hi w v n zs) (hk : v.ownBlock ≠ some k) (u : Value) : OwnI lo hi (w.setCell ⟨k, i, none⟩ u) v n zs := by
  refine ⟨⟨h.own.1, ?_⟩, h.top⟩
  rcases h.own.2 with e | ⟨g, cap, cur, e, hg, hh, r⟩
  · exact .inl e
  · exact .inr ⟨g, cap, cur, e, hg, heap_far hh (fun e2 => hk (by rw [e, show k = g from e2.symm]; rfl)) u, r⟩
theorem OwnI.setAt {lo hi b c n j : Nat} {w : World} {zs : List Int} (h : OwnI lo hi w (.slice (some ⟨b, 0, none⟩) n c) n zs) (x : Int) : OwnI lo hi (w.setCell ⟨b, j, none⟩ (.int .i64 x)) (.slice (some ⟨b, 0, none⟩) n c) n (zs.set j x) := by
  refine ⟨?_, h.top⟩
  have := (h.own.stored j (.int .i64 x)).1
  simpa [intVals, List.map_set] using this
theorem OwnI.cellAt {lo hi b c n j : Nat} {w : World} {zs : List Int} (h : OwnI lo hi w (.slice (some ⟨b, 0, none⟩) n c) n zs) (hj : j < n) : w.cell? ⟨b, j, none⟩ = some (.int .i64 (zs.getD j 0)) ∧ w.frozen? ⟨b, j, none⟩ = false := by
  refine ⟨?_, h.own.frozenAt j⟩
  have hl := h.len
  rw [h.own.cellAt j (by omega)]
  simp [intVals, List.getElem?_map, List.getD_eq_getElem?_getD, List.getElem?_eq_getElem (show j < zs.length by omega)]
/-- A number of the copy is set. -/
theorem Aft.set {w0 wr : World} {g b c j n0 n1 : Nat} {v1 : Value} {rs os : List Int} (h : Aft w0 wr g (.slice (some ⟨b, 0, none⟩) n0 c) v1 n0 n1 rs os) (hb : w0.heap.size ≤ b) (x : Int) :
    Aft w0 (wr.setCell ⟨b, j, none⟩ (.int .i64 x)) g (.slice (some ⟨b, 0, none⟩) n0 c) v1 n0 n1 (rs.set j x) os :=
  ⟨h.low.setCell (p := ⟨b, j, none⟩) hb _, h.ge, heap_far h.box (fun e => h.f0 (by rw [e]; rfl)) _, (h.o0.setAt x).wide (Nat.le_refl _) (by simp), (h.o1.setOff (fun e => h.ap b rfl e) _).wide (Nat.le_refl _) (by simp), h.ap, h.f0, h.f1⟩
/-- An output is appended, and the list stored. -/
theorem Aft.app {w0 w5 w7 : World} {g g3 cap n0 n1 : Nat} {v0 v1 : Value} {rs os : List Int} {x : Int} {o : Obj} (h : Aft w0 w5 g v0 v1 n0 n1 rs os) (ho : w7.ownsRow w0.heap.size 3 1 (.slice (some ⟨g3, 0, none⟩) (n1 + 1) cap) (n1 + 1) (intVals os ++ [.int .i64 x])) (hg : (w5.alloc o).grownBy w7 v1.ownBlock) (hat : v1.ownBlock = some g3 ∨ g3 = w5.heap.size + 1) :
    Aft w0 (w7.setCell ⟨g, 1, none⟩ (.slice (some ⟨g3, 0, none⟩) (n1 + 1) cap)) g v0 (.slice (some ⟨g3, 0, none⟩) (n1 + 1) cap) n0 (n1 + 1) rs (os ++ [x]) := by
  have hgt := h.lt
  have low5 := h.low.alloc h.low.size o
  have hne : g3 ≠ g := by
    rcases hat with e | e
    · exact fun e2 => h.f1 (by rw [e, e2])
    · omega
  have ho2 : w7.ownsRow w0.heap.size 3 1 (.slice (some ⟨g3, 0, none⟩) (n1 + 1) cap) (n1 + 1) (intVals (os ++ [x])) := by
    rw [show intVals (os ++ [x]) = intVals os ++ [Value.int .i64 x] by simp [intVals]]
    exact ho
  have hs := hg.size
  have hs5 : (w5.alloc o).heap.size = w5.heap.size + 1 := by simp
  have f1 : (Value.slice (some ⟨g3, 0, none⟩) (n1 + 1) cap).ownBlock ≠ some g := fun e => hne (by simpa [Value.ownBlock] using e)
  refine ⟨(low5.grown hg low5.size (fun k e => (h.o1.ltB e).1)).setCell (p := ⟨g, 1, none⟩) h.ge _, h.ge, ?_, ?_, ?_, ?_, h.f0, f1⟩
  · exact heap_set (i := 1) (heap_grown (heap_alloc h.box o) hg (fun e => h.f1 e)) _
  · exact (((h.o0.alloc o).keep hg h.ap).setOff h.f0 _).wide (Nat.le_refl _) (by simp; omega)
  · exact ((OwnI.of_own ho2).setOff f1 _).wide (Nat.le_refl _) (by simp)
  · intro k e e'
    have e2 : g3 = k := by simpa [Value.ownBlock] using e'
    subst e2
    rcases hat with e3 | e3
    · exact h.ap _ e e3
    · have := h.o0.top _ e; omega
theorem set_lows {B G : Nat} {w0 w : World} (h : Below B w0 w) (hG : B ≤ G) (u v : Value) : Below B w0 ((w.setCell ⟨G, 0, none⟩ u).setCell ⟨G, 1, none⟩ v) :=
  (h.setCell (p := ⟨G, 0, none⟩) hG _).setCell (p := ⟨G, 1, none⟩) hG _
end Go.Proofs.YtjfmcdfgccdmpaaGreat
