/- StepState: the copies that the model makes's. No condition. -/
import Derived.Test.YtlaidjibcpfnjaaProg
import Derived.Test.YtlaidjibcpfnjaaRunM
import Derived.Test.YtlaidjibcpfnjaaSState
import Derived.Test.YtlaidjibcpfnjaaB1
namespace Go.Proofs.Ytlaidjibcpfnjaa
open Go Go.RowKit
/-- A state in new memory, both its slices made as slices of ints. -/
def NewState (z0 z1 : List Int) (w : World) (e : Ending) (w' : World) : Prop :=
  ∃ (A0 A1 : Option Addr) (n0 n1 c0 c1 : Nat), e = .returned (.agg #[.slice A0 n0 c0, .slice A1 n1 c1]) ∧ OwnI w.heap.size w'.heap.size w' (.slice A0 n0 c0) n0 z0 ∧ OwnI w.heap.size w'.heap.size w' (.slice A1 n1 c1) n1 z1 ∧ apart (.slice A0 n0 c0) (.slice A1 n1 c1) ∧ Below w.heap.size w w'
set_option maxHeartbeats 2000000 in
theorem spec_l12Copy (A0 A1 : Option Addr) (c0 c1 n0 n1 : Nat) (rs os : List Int) (w : World) (h0 : Ints w A0 rs) (l0 : rs.length = n0) (m0 : n0 ≤ 2000000) (h1 : Ints w A1 os) (l1 : os.length = n1) (m1 : n1 ≤ 2000000) :
    Calls Try.prog 75 #[.agg #[.slice A0 n0 c0, .slice A1 n1 c1]] w (NewState rs os w) := by
  have k0 := Bx2.start w 38 #[.slice A0 n0 c0, .slice A1 n1 c1] 38 #[.slice none 0 0, .slice none 0 0]
  have L0 := Lib.hid l0
  have L1 := Lib.hid l1
  have i0 := h0.bound
  have i1 := h1.bound
  clear l0 l1 h0 h1
  go_enter Try.func75, Try.ntmps75
  go_wp2_with fail
  generalize hw0 : (w.alloc (.cells #[.slice A0 n0 c0, .slice A1 n1 c1] 38)).alloc (.cells #[.slice none 0 0, .slice none 0 0] 38) = w0 at *
  clear hw0
  have f1 := heap_alloc_new w0 (.cells #[] 3)
  have f2 := heap_alloc f1 (.cells #[] 3)
  have f3 : ((w0.alloc (.cells #[] 3)).alloc (.cells #[] 3)).heap[w0.heap.size + 1]? = some (.cells #[] 3 (0, 0)) := by
    have h := heap_alloc_new (w0.alloc (.cells #[] 3)) (.cells #[] 3)
    simpa using h
  have b1 : Below w0.heap.size w0 (w0.alloc (.cells #[] 3)) := (Below.refl _ _).alloc (Nat.le_refl _) _
  have b2 : Below w0.heap.size w0 ((w0.alloc (.cells #[] 3)).alloc (.cells #[] 3)) := b1.alloc (by simp) _
  have hs := k0.lt
  have j0 := (i0.below k0.low).ints k0.low.size
  have j1 := (i1.below k0.low).ints k0.low.size
  have x0 := (blk (i := 0) k0.arg rfl).1
  have x1 := (blk (i := 1) k0.arg rfl).1
  have x2 := cell_on x0 b1
  have x3 := cell_on x1 b1
  have x4 := cell_on x0 b2
  have x5 := cell_on x1 b2
  have d1 := b1.drew
  have d2 := b2.drew
  go_region_held3 (fun w' => w'.cell? ⟨w.heap.size, 0, none⟩ = some (.slice A0 n0 c0) ∧ w'.cell? ⟨w.heap.size, 1, none⟩ = some (.slice A1 n1 c1)) (first | exact ⟨x0, x1⟩ | exact ⟨x2, x3⟩ | exact ⟨x4, x5⟩ | (refine ⟨?_, ?_⟩ <;> first | assumption | exact far_two (by assumption) (by simp) _ _)) (first
    | (refine step_app_ints elemInt (by rfl) (.tmp 3) (.tmp 5) (by rfl) w0.heap.size (.slice (some ⟨w0.heap.size, 0, none⟩) 0 0) 0 [] (by rfl) (own_nil f1 (Nat.le_refl _)) A0 n0 c0 rs (by rfl) (j0.below d1) L0.out (by unfold maxLen; omega) (by omega) (by simp <;> omega) ?_; intro v5 w5 ho5 hg5 hat5; (obtain ⟨A5, q5, c5, rfl, hq5⟩ := ownsRow_slice ho5); (have b5 : Below w0.heap.size w0 w5 := Below.grown d1 hg5 (by simp <;> omega) (fun k e => own_ge (by omega) e)); (have y0 := cell_on x0 b5); (have y1 := cell_on x1 b5); (have lt5 := ho5.lt); (have p5 : ∀ k, (Value.slice A5 q5 c5).ownBlock = some k → True ∧ k < w5.heap.size := fun k e => ⟨by first | trivial | (have h1 := at_or hat5 e; simp at h1; omega), (lt5 k e).2⟩); (have O5 := OwnI.of_own (zs := rs) ho5); (have z0 := cell_on x0 (b5.alloc b5.size (.cells #[] 3))); (have z1 := cell_on x1 (b5.alloc b5.size (.cells #[] 3))); (have g5 := b5.alloc b5.size (.cells #[] 3)))
    | (refine step_app_ints elemInt (by rfl) (.tmp 3) (.tmp 5) (by rfl) w0.heap.size (.slice (some ⟨w0.heap.size, 0, none⟩) 0 0) 0 [] (by rfl) (own_nil f2 (Nat.le_refl _)) A0 n0 c0 rs (by rfl) (j0.below d2) L0.out (by unfold maxLen; omega) (by omega) (by simp <;> omega) ?_; intro v5 w5 ho5 hg5 hat5; (obtain ⟨A5, q5, c5, rfl, hq5⟩ := ownsRow_slice ho5); (have b5 : Below w0.heap.size w0 w5 := Below.grown d2 hg5 (by simp <;> omega) (fun k e => own_ge (by omega) e)); (have y0 := cell_on x0 b5); (have y1 := cell_on x1 b5); (have lt5 := ho5.lt); (have p5 : ∀ k, (Value.slice A5 q5 c5).ownBlock = some k → (k = w0.heap.size ∨ k = w0.heap.size + 2) ∧ k < w5.heap.size := fun k e => ⟨by first | trivial | (have h1 := at_or hat5 e; simp at h1; omega), (lt5 k e).2⟩); (have O5 := OwnI.of_own (zs := rs) ho5); (have r2 := heap_grown (w := ((w0.alloc (.cells #[] 3)).alloc (.cells #[] 3)).drew) f3 hg5 (by simp [Value.ownBlock])))
    | (refine step_app_ints elemInt (by rfl) (.tmp 3) (.tmp 5) (by rfl) w0.heap.size (.slice (some ⟨w0.heap.size + 1, 0, none⟩) 0 0) 0 [] (by rfl) (own_nil f3 (by simp)) A0 n0 c0 rs (by rfl) (j0.below d2) L0.out (by unfold maxLen; omega) (by omega) (by simp <;> omega) ?_; intro v5 w5 ho5 hg5 hat5; (obtain ⟨A5, q5, c5, rfl, hq5⟩ := ownsRow_slice ho5); (have b5 : Below w0.heap.size w0 w5 := Below.grown d2 hg5 (by simp <;> omega) (fun k e => own_ge (by omega) e)); (have y0 := cell_on x0 b5); (have y1 := cell_on x1 b5); (have lt5 := ho5.lt); (have p5 : ∀ k, (Value.slice A5 q5 c5).ownBlock = some k → (k = w0.heap.size + 1 ∨ k = w0.heap.size + 2) ∧ k < w5.heap.size := fun k e => ⟨by first | trivial | (have h1 := at_or hat5 e; simp at h1; omega), (lt5 k e).2⟩); (have O5 := OwnI.of_own (zs := rs) ho5); (have r3 := heap_grown (w := ((w0.alloc (.cells #[] 3)).alloc (.cells #[] 3)).drew) f2 hg5 (by simp [Value.ownBlock])))
    | (refine step_app_ints elemInt (by rfl) (.tmp 7) (.tmp 9) (by rfl) w0.heap.size (.slice (some ⟨w5.heap.size, 0, none⟩) 0 0) 0 [] (by rfl) (own_nil (heap_alloc_new w5 _) b5.size) A1 n1 c1 os (by rfl) (j1.below g5) L1.out (by unfold maxLen; omega) (by omega) (by have := b5.size; simp <;> omega) ?_; intro v7 w7 ho7 hg7 hat7; (obtain ⟨A7, q7, c7, rfl, hq7⟩ := ownsRow_slice ho7); (have b7 : Below w0.heap.size w0 w7 := Below.grown g5 hg7 (by have := b5.size; simp <;> omega) (fun k e => own_ge (by have := b5.size; omega) e)); (have k7 := k0.next b7); (have u0 := cell_on x0 b7); (have u1 := cell_on x1 b7); (obtain ⟨y2, f2'⟩ := blk (i := 0) k7.res rfl); (obtain ⟨y3, f3'⟩ := blk (i := 1) k7.res rfl); (have O7 := OwnI.of_own (zs := os) ho7); (have ap := apart_or hat7 (fun k e => by have := p5 k e; simp <;> omega)); (have z7 := hg7.size); (have O6 := OwnI.keep (O5.alloc (.cells #[] 3)) hg7 (apart_at (fun k e => by have := p5 k e; omega))))
    | (refine step_app_ints elemInt (by rfl) (.tmp 7) (.tmp 9) (by rfl) w0.heap.size (.slice (some ⟨w0.heap.size + 1, 0, none⟩) 0 0) 0 [] (by rfl) (own_nil r2 (by omega)) A1 n1 c1 os (by rfl) (j1.below b5) L1.out (by unfold maxLen; omega) (by omega) (by have := b5.size; simp <;> omega) ?_; intro v7 w7 ho7 hg7 hat7; (obtain ⟨A7, q7, c7, rfl, hq7⟩ := ownsRow_slice ho7); (have b7 : Below w0.heap.size w0 w7 := Below.grown b5 hg7 (by have := b5.size; simp <;> omega) (fun k e => own_ge (by have := b5.size; omega) e)); (have k7 := k0.next b7); (have u0 := cell_on x0 b7); (have u1 := cell_on x1 b7); (obtain ⟨y2, f2'⟩ := blk (i := 0) k7.res rfl); (obtain ⟨y3, f3'⟩ := blk (i := 1) k7.res rfl); (have O7 := OwnI.of_own (zs := os) ho7); (have ap := apart_or hat7 (fun k e => by have := p5 k e; simp <;> omega)); (have z7 := hg7.size); (have O6 := OwnI.keep (O5) hg7 (apart_at (fun k e => by have := p5 k e; omega))))
    | (refine step_app_ints elemInt (by rfl) (.tmp 7) (.tmp 9) (by rfl) w0.heap.size (.slice (some ⟨w0.heap.size, 0, none⟩) 0 0) 0 [] (by rfl) (own_nil r3 (Nat.le_refl _)) A1 n1 c1 os (by rfl) (j1.below b5) L1.out (by unfold maxLen; omega) (by omega) (by have := b5.size; simp <;> omega) ?_; intro v7 w7 ho7 hg7 hat7; (obtain ⟨A7, q7, c7, rfl, hq7⟩ := ownsRow_slice ho7); (have b7 : Below w0.heap.size w0 w7 := Below.grown b5 hg7 (by have := b5.size; simp <;> omega) (fun k e => own_ge (by have := b5.size; omega) e)); (have k7 := k0.next b7); (have u0 := cell_on x0 b7); (have u1 := cell_on x1 b7); (obtain ⟨y2, f2'⟩ := blk (i := 0) k7.res rfl); (obtain ⟨y3, f3'⟩ := blk (i := 1) k7.res rfl); (have O7 := OwnI.of_own (zs := os) ho7); (have ap := apart_or hat7 (fun k e => by have := p5 k e; simp <;> omega)); (have z7 := hg7.size); (have O6 := OwnI.keep (O5) hg7 (apart_at (fun k e => by have := p5 k e; omega)))))
  all_goals
    have r7 := heap_set (i := 1) (heap_set (i := 0) k7.res (.slice A5 q5 c5)) (.slice A7 q7 c7)
    have l7 := (k7.low.setCell (p := ⟨w.heap.size + 1, 0, none⟩) (by simp) (.slice A5 q5 c5)).setCell (p := ⟨w.heap.size + 1, 1, none⟩) (by simp) (.slice A7 q7 c7)
    have t7 := b5.size
    have HQ := Lib.hid (show n0 = q5 ∧ n1 = q7 by omega)
    have OO : Hid (OwnI w.heap.size w7.heap.size ((w7.setCell ⟨w.heap.size + 1, 0, none⟩ (.slice A5 q5 c5)).setCell ⟨w.heap.size + 1, 1, none⟩ (.slice A7 q7 c7)) (.slice A5 q5 c5) q5 rs ∧ OwnI w.heap.size w7.heap.size ((w7.setCell ⟨w.heap.size + 1, 0, none⟩ (.slice A5 q5 c5)).setCell ⟨w.heap.size + 1, 1, none⟩ (.slice A7 q7 c7)) (.slice A7 q7 c7) q7 os ∧ apart (.slice A5 q5 c5) (.slice A7 q7 c7)) := by
      obtain ⟨e5, e7⟩ := HQ.out
      subst e5 e7
      refine Lib.hid ⟨?_, ?_, ap⟩
      · have h := (O6.setFar (g := w.heap.size + 1) (i := 0) hs (.slice A5 n0 c5)).setFar (g := w.heap.size + 1) (i := 1) hs (.slice A7 n1 c7)
        rw [Nat.zero_add] at h
        exact h.wide (by omega) (by first | omega | (simp at z7; omega))
      · have h := (O7.setFar (g := w.heap.size + 1) (i := 0) hs (.slice A5 n0 c5)).setFar (g := w.heap.size + 1) (i := 1) hs (.slice A7 n1 c7)
        rw [Nat.zero_add] at h
        exact h.wide (by omega) (Nat.le_refl _)
    have R7 := Lib.hid r7
    have LL := Lib.hid l7
    clear O6 O7 O5 ap p5 lt5 hat7 hg7 ho7 hat5 hg5 ho5 b7 r7 l7 k7
    go_wp2_with fail
    refine bodyPost_ret (results_cell_row (P := Try.prog) rfl _ _ (w.heap.size + 1) 38 _ (0, 0) _ rfl R7.out Try.underlying38 rfl (by kernel_rfl)) rfl ?_
    exact ⟨_, _, _, _, _, _, rfl, OO.out.1.wide (Nat.le_refl _) (by simp), OO.out.2.1.wide (Nat.le_refl _) (by simp), OO.out.2.2, LL.out⟩
end Go.Proofs.Ytlaidjibcpfnjaa
