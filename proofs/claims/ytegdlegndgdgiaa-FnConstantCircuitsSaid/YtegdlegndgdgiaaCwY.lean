/- Circuit builders: copies of circuits, the program's Clone and the model's. No condition. -/
import Derived.Test.YtegdlegndgdgiaaProg
import Derived.Test.YtegdlegndgdgiaaW2
import Derived.Test.YtegdlegndgdgiaaB1
import Derived.Test.YtegdlegndgdgiaaAppC
import Derived.WalkSpells
namespace Go.Proofs.Ytegdlegndgdgiaa
open Go Go.RowKit
/-- A slice of the call's own whose block's type is known. -/
structure OwnT (e : TypeId) (m lo hi : Nat) (w : World) (v : Value) (n : Nat) (zs : List Int) : Prop where
  own : w.ownsRow lo e m v n (intVals zs)
  top : ∀ k, v.ownBlock = some k → k < hi
section
variable {w w1 : World} {e : TypeId} {m lo hi lo' hi' n g i : Nat} {u v : Value} {zs : List Int}
theorem OwnT.of_own (h : w.ownsRow lo e m v n (intVals zs)) : OwnT e m lo w.heap.size w v n zs := ⟨h, fun k e => (h.lt k e).2⟩
theorem OwnT.alloc (h : OwnT e m lo hi w v n zs) (o : Obj) : OwnT e m lo hi (w.alloc o) v n zs := ⟨h.own.alloc o, h.top⟩
theorem OwnT.wide (h : OwnT e m lo hi w v n zs) (h1 : lo' ≤ lo) (h2 : hi ≤ hi') : OwnT e m lo' hi' w v n zs := ⟨own_mono h.own h1, fun k e => Nat.lt_of_lt_of_le (h.top k e) h2⟩
theorem OwnT.keep (h : OwnT e m lo hi w v n zs) (hg : w.grownBy w1 u.ownBlock) (ha : apart v u) : OwnT e m lo hi w1 v n zs :=
  ⟨h.own.kept hg (by
    rcases hv : v.ownBlock with _ | k
    · exact .inl rfl
    · exact .inr (fun e => ha k hv e.symm)), h.top⟩
theorem OwnT.setFar (h : OwnT e m lo hi w v n zs) (hg : g < lo) (u : Value) : OwnT e m lo hi (w.setCell ⟨g, i, none⟩ u) v n zs := ⟨ownsRow_setCell_below h.own (a := ⟨g, i, none⟩) hg u, h.top⟩
end
/-- A circuit in new memory. -/
def NewCir (z0 z1 : List Int) (w : World) (e : Ending) (w' : World) : Prop :=
  ∃ (A0 A1 : Option Addr) (n0 n1 c0 c1 : Nat), e = .returned (.agg #[.slice A0 n0 c0, .slice A1 n1 c1]) ∧ OwnT 45 3 w.heap.size w'.heap.size w' (.slice A0 n0 c0) n0 z0 ∧ OwnT 3 1 w.heap.size w'.heap.size w' (.slice A1 n1 c1) n1 z1 ∧ apart (.slice A0 n0 c0) (.slice A1 n1 c1) ∧ Below w.heap.size w w'
set_option maxHeartbeats 2000000 in
theorem spec_l14Copy (A0 A1 : Option Addr) (c0 c1 n0 n1 : Nat) (rs os : List Int) (w : World) (h0 : Ints w A0 rs) (l0 : rs.length = n0 * 3) (m0 : n0 ≤ 2000000) (h1 : Ints w A1 os) (l1 : os.length = n1) (m1 : n1 ≤ 2000000) :
    Calls Try.prog 109 #[.agg #[.slice A0 n0 c0, .slice A1 n1 c1]] w (NewCir rs os w) := by
  have k0 := Bx2.start w 31 #[.slice A0 n0 c0, .slice A1 n1 c1] 31 #[.slice none 0 0, .slice none 0 0]
  have L0 := Lib.hid l0
  have L1 := Lib.hid l1
  have i0 := h0.bound
  have i1 := h1.bound
  clear l0 l1 h0 h1
  go_enter Try.func109, Try.ntmps109
  go_wp2_with fail
  generalize hw0 : (w.alloc (.cells #[.slice A0 n0 c0, .slice A1 n1 c1] 31)).alloc (.cells #[.slice none 0 0, .slice none 0 0] 31) = w0 at *
  clear hw0
  have f1 := heap_alloc_new w0 (.cells #[] 45)
  have f2 := heap_alloc f1 (.cells #[] 3)
  have f5 := heap_alloc (heap_alloc_new w0 (.cells #[] 3)) (.cells #[] 45)
  have f4 : ((w0.alloc (.cells #[] 45)).alloc (.cells #[] 3)).heap[w0.heap.size + 1]? = some (.cells #[] 3 (0, 0)) := by
    have h := heap_alloc_new (w0.alloc (.cells #[] 45)) (.cells #[] 3)
    simpa using h
  have f3 : ((w0.alloc (.cells #[] 3)).alloc (.cells #[] 45)).heap[w0.heap.size + 1]? = some (.cells #[] 45 (0, 0)) := by
    have h := heap_alloc_new (w0.alloc (.cells #[] 3)) (.cells #[] 45)
    simpa using h
  have b1 : Below w0.heap.size w0 (w0.alloc (.cells #[] 45)) := (Below.refl _ _).alloc (Nat.le_refl _) _
  have b2 : Below w0.heap.size w0 ((w0.alloc (.cells #[] 45)).alloc (.cells #[] 3)) := b1.alloc (by simp) _
  have b4 : Below w0.heap.size w0 (w0.alloc (.cells #[] 3)) := (Below.refl _ _).alloc (Nat.le_refl _) _
  have b3 : Below w0.heap.size w0 ((w0.alloc (.cells #[] 3)).alloc (.cells #[] 45)) := b4.alloc (by simp) _
  have hs := k0.lt
  have j0 := (i0.below k0.low).ints k0.low.size
  have j1 := (i1.below k0.low).ints k0.low.size
  have x0 := (blk (i := 0) k0.arg rfl).1
  have x1 := (blk (i := 1) k0.arg rfl).1
  have x2 := cell_on x0 b1
  have x3 := cell_on x1 b1
  have x4 := cell_on x0 b2
  have x5 := cell_on x1 b2
  have x6 := cell_on x0 b4
  have x7 := cell_on x1 b4
  have x8 := cell_on x0 b3
  have x9 := cell_on x1 b3
  have d3 := b3.drew
  have d1 := b1.drew
  have d2 := b2.drew
  go_region_held3 (fun w' => w'.cell? ⟨w.heap.size, 0, none⟩ = some (.slice A0 n0 c0) ∧ w'.cell? ⟨w.heap.size, 1, none⟩ = some (.slice A1 n1 c1)) (first | exact ⟨x0, x1⟩ | exact ⟨x2, x3⟩ | exact ⟨x4, x5⟩ | exact ⟨x6, x7⟩ | exact ⟨x8, x9⟩ | (refine ⟨?_, ?_⟩ <;> first | assumption | exact far_two (by assumption) (by simp) _ _)) (first
    | (refine step_app_cells elemGate (by rfl) (.tmp 3) (.tmp 5) (by rfl) w0.heap.size (.slice (some ⟨w0.heap.size, 0, none⟩) 0 0) 0 [] (by rfl) (own_nilC f1 (Nat.le_refl _)) A0 n0 c0 rs (by rfl) (j0.below d1) L0.out (by unfold maxLen; omega) (by omega) (by simp <;> omega) ?_; intro v5 w5 ho5 hg5 hat5; (obtain ⟨A5, q5, c5, rfl, hq5⟩ := ownsRow_slice ho5); (have b5 : Below w0.heap.size w0 w5 := Below.grown d1 hg5 (by simp <;> omega) (fun k e => own_ge (by omega) e)); (have y0 := cell_on x0 b5); (have y1 := cell_on x1 b5); (have lt5 := ho5.lt); (have p5 : ∀ k, (Value.slice A5 q5 c5).ownBlock = some k → True ∧ k < w5.heap.size := fun k e => ⟨by first | trivial | (have h1 := at_or hat5 e; simp at h1; omega), (lt5 k e).2⟩); (have O5 := OwnT.of_own (zs := rs) ho5); (have z0 := cell_on x0 (b5.alloc b5.size (.cells #[] 3))); (have z1 := cell_on x1 (b5.alloc b5.size (.cells #[] 3))); (have g5 := b5.alloc b5.size (.cells #[] 3)))
    | (refine step_app_cells elemGate (by rfl) (.tmp 3) (.tmp 5) (by rfl) w0.heap.size (.slice (some ⟨w0.heap.size, 0, none⟩) 0 0) 0 [] (by rfl) (own_nilC f2 (Nat.le_refl _)) A0 n0 c0 rs (by rfl) (j0.below d2) L0.out (by unfold maxLen; omega) (by omega) (by simp <;> omega) ?_; intro v5 w5 ho5 hg5 hat5; (obtain ⟨A5, q5, c5, rfl, hq5⟩ := ownsRow_slice ho5); (have b5 : Below w0.heap.size w0 w5 := Below.grown d2 hg5 (by simp <;> omega) (fun k e => own_ge (by omega) e)); (have y0 := cell_on x0 b5); (have y1 := cell_on x1 b5); (have lt5 := ho5.lt); (have p5 : ∀ k, (Value.slice A5 q5 c5).ownBlock = some k → (k = w0.heap.size ∨ k = w0.heap.size + 2) ∧ k < w5.heap.size := fun k e => ⟨by first | trivial | (have h1 := at_or hat5 e; simp at h1; omega), (lt5 k e).2⟩); (have O5 := OwnT.of_own (zs := rs) ho5); (have r2 := heap_grown (w := ((w0.alloc (.cells #[] 45)).alloc (.cells #[] 3)).drew) f4 hg5 (by simp [Value.ownBlock])))
    | (refine step_app_cells elemGate (by rfl) (.tmp 3) (.tmp 5) (by rfl) w0.heap.size (.slice (some ⟨w0.heap.size + 1, 0, none⟩) 0 0) 0 [] (by rfl) (own_nilC f3 (by simp)) A0 n0 c0 rs (by rfl) (j0.below d3) L0.out (by unfold maxLen; omega) (by omega) (by simp <;> omega) ?_; intro v5 w5 ho5 hg5 hat5; (obtain ⟨A5, q5, c5, rfl, hq5⟩ := ownsRow_slice ho5); (have b5 : Below w0.heap.size w0 w5 := Below.grown d3 hg5 (by simp <;> omega) (fun k e => own_ge (by omega) e)); (have y0 := cell_on x0 b5); (have y1 := cell_on x1 b5); (have lt5 := ho5.lt); (have p5 : ∀ k, (Value.slice A5 q5 c5).ownBlock = some k → (k = w0.heap.size + 1 ∨ k = w0.heap.size + 2) ∧ k < w5.heap.size := fun k e => ⟨by first | trivial | (have h1 := at_or hat5 e; simp at h1; omega), (lt5 k e).2⟩); (have O5 := OwnT.of_own (zs := rs) ho5); (have r3 := heap_grown (w := ((w0.alloc (.cells #[] 3)).alloc (.cells #[] 45)).drew) f5 hg5 (by simp [Value.ownBlock])))
    | (refine step_app_ints elemInt (by rfl) (.tmp 7) (.tmp 9) (by rfl) w0.heap.size (.slice (some ⟨w5.heap.size, 0, none⟩) 0 0) 0 [] (by rfl) (own_nil (heap_alloc_new w5 _) b5.size) A1 n1 c1 os (by rfl) (j1.below g5) L1.out (by unfold maxLen; omega) (by omega) (by have := b5.size; simp <;> omega) ?_; intro v7 w7 ho7 hg7 hat7; (obtain ⟨A7, q7, c7, rfl, hq7⟩ := ownsRow_slice ho7); (have b7 : Below w0.heap.size w0 w7 := Below.grown g5 hg7 (by have := b5.size; simp <;> omega) (fun k e => own_ge (by have := b5.size; omega) e)); (have k7 := k0.next b7); (have u0 := cell_on x0 b7); (have u1 := cell_on x1 b7); (obtain ⟨y2, f2'⟩ := blk (i := 0) k7.res rfl); (obtain ⟨y3, f3'⟩ := blk (i := 1) k7.res rfl); (have O7 := OwnT.of_own (zs := os) ho7); (have ap := apart_or hat7 (fun k e => by have := p5 k e; simp <;> omega)); (have z7 := hg7.size); (have O6 := OwnT.keep (O5.alloc (.cells #[] 3)) hg7 (apart_at (fun k e => by have := p5 k e; omega))))
    | (refine step_app_ints elemInt (by rfl) (.tmp 7) (.tmp 9) (by rfl) w0.heap.size (.slice (some ⟨w0.heap.size + 1, 0, none⟩) 0 0) 0 [] (by rfl) (own_nil r2 (by omega)) A1 n1 c1 os (by rfl) (j1.below b5) L1.out (by unfold maxLen; omega) (by omega) (by have := b5.size; simp <;> omega) ?_; intro v7 w7 ho7 hg7 hat7; (obtain ⟨A7, q7, c7, rfl, hq7⟩ := ownsRow_slice ho7); (have b7 : Below w0.heap.size w0 w7 := Below.grown b5 hg7 (by have := b5.size; simp <;> omega) (fun k e => own_ge (by have := b5.size; omega) e)); (have k7 := k0.next b7); (have u0 := cell_on x0 b7); (have u1 := cell_on x1 b7); (obtain ⟨y2, f2'⟩ := blk (i := 0) k7.res rfl); (obtain ⟨y3, f3'⟩ := blk (i := 1) k7.res rfl); (have O7 := OwnT.of_own (zs := os) ho7); (have ap := apart_or hat7 (fun k e => by have := p5 k e; simp <;> omega)); (have z7 := hg7.size); (have O6 := OwnT.keep (O5) hg7 (apart_at (fun k e => by have := p5 k e; omega))))
    | (refine step_app_ints elemInt (by rfl) (.tmp 7) (.tmp 9) (by rfl) w0.heap.size (.slice (some ⟨w0.heap.size, 0, none⟩) 0 0) 0 [] (by rfl) (own_nil r3 (Nat.le_refl _)) A1 n1 c1 os (by rfl) (j1.below b5) L1.out (by unfold maxLen; omega) (by omega) (by have := b5.size; simp <;> omega) ?_; intro v7 w7 ho7 hg7 hat7; (obtain ⟨A7, q7, c7, rfl, hq7⟩ := ownsRow_slice ho7); (have b7 : Below w0.heap.size w0 w7 := Below.grown b5 hg7 (by have := b5.size; simp <;> omega) (fun k e => own_ge (by have := b5.size; omega) e)); (have k7 := k0.next b7); (have u0 := cell_on x0 b7); (have u1 := cell_on x1 b7); (obtain ⟨y2, f2'⟩ := blk (i := 0) k7.res rfl); (obtain ⟨y3, f3'⟩ := blk (i := 1) k7.res rfl); (have O7 := OwnT.of_own (zs := os) ho7); (have ap := apart_or hat7 (fun k e => by have := p5 k e; simp <;> omega)); (have z7 := hg7.size); (have O6 := OwnT.keep (O5) hg7 (apart_at (fun k e => by have := p5 k e; omega)))))
  all_goals
    have r7 := heap_set (i := 1) (heap_set (i := 0) k7.res (.slice A5 q5 c5)) (.slice A7 q7 c7)
    have l7 := (k7.low.setCell (p := ⟨w.heap.size + 1, 0, none⟩) (by simp) (.slice A5 q5 c5)).setCell (p := ⟨w.heap.size + 1, 1, none⟩) (by simp) (.slice A7 q7 c7)
    have t7 := b5.size
    have HQ := Lib.hid (show n0 = q5 ∧ n1 = q7 by omega)
    have OO : Hid (OwnT 45 3 w.heap.size w7.heap.size ((w7.setCell ⟨w.heap.size + 1, 0, none⟩ (.slice A5 q5 c5)).setCell ⟨w.heap.size + 1, 1, none⟩ (.slice A7 q7 c7)) (.slice A5 q5 c5) q5 rs ∧ OwnT 3 1 w.heap.size w7.heap.size ((w7.setCell ⟨w.heap.size + 1, 0, none⟩ (.slice A5 q5 c5)).setCell ⟨w.heap.size + 1, 1, none⟩ (.slice A7 q7 c7)) (.slice A7 q7 c7) q7 os ∧ apart (.slice A5 q5 c5) (.slice A7 q7 c7)) := by
      obtain ⟨e5, e7⟩ := HQ.out
      subst e5 e7
      refine Lib.hid ⟨?_, ?_, ap⟩
      · have h := (O6.setFar (g := w.heap.size + 1) (i := 0) hs (.slice A5 n0 c5)).setFar (g := w.heap.size + 1) (i := 1) hs (.slice A7 n1 c7)
        rw [Nat.zero_add] at h
        exact h.wide (by omega) (by first | omega | (simp at z7; omega))
      · have h := (O7.setFar (g := w.heap.size + 1) (i := 0) hs (.slice A5 n0 c5)).setFar (g := w.heap.size + 1) (i := 1) hs (.slice A7 n1 c7)
        rw [Nat.zero_add] at h
        exact h.wide (by omega) (Nat.le_refl _)
    have R7 := Lib.hid r7
    have LL := Lib.hid l7
    clear O6 O7 O5 ap p5 lt5 hat7 hg7 ho7 hat5 hg5 ho5 b7 r7 l7 k7
    go_wp2_with fail
    refine bodyPost_ret (results_cell_row (P := Try.prog) rfl _ _ (w.heap.size + 1) 31 _ (0, 0) _ rfl R7.out Try.underlying31 rfl (by kernel_rfl)) rfl ?_
    exact ⟨_, _, _, _, _, _, rfl, OO.out.1.wide (Nat.le_refl _) (by simp), OO.out.2.1.wide (Nat.le_refl _) (by simp), OO.out.2.2, LL.out⟩
/-- Gates in new memory. -/
def MadeG (zs : List Int) (w : World) (e : Ending) (w' : World) : Prop :=
  ∃ (A : Option Addr) (m c : Nat), e = .returned (.slice A m c) ∧ zs.length = m * 3 ∧ w'.ownsRow w.heap.size 45 3 (.slice A m c) m (intVals zs) ∧ Below w.heap.size w w'
theorem impl_CloneG (A : Option Addr) (n c : Nat) (xs : List Int) (w : World) (hx : Ints w A xs) (lx : xs.length = n * 3) (mx : n ≤ 2000000) :
    Calls Try.prog 142 #[.slice A n c] w (MadeG xs w) := by
  have hnil := Lib.run_eql_slice_nil (P := Try.prog) w 29 45 A n c 0 0 Try.underlying29
  cases A with
  | none =>
    have hn : n = 0 := by
      rcases Nat.eq_zero_or_pos n with h | h
      · exact h
      · obtain ⟨_, _, e, _⟩ := hx (by omega)
        cases e
    subst hn
    obtain rfl : xs = [] := List.eq_nil_of_length_eq_zero (by omega)
    clear hx
    go_enter Try.func142, Try.ntmps142
    go_wp2_with fail
    go_ret
    exact ⟨none, 0, 0, rfl, rfl, World.ownsRow_nil _ _ _ _, Below.refl _ _⟩
  | some a =>
    have low := below_alloc w (.cells #[] 45)
    have g0 := heap_alloc_new w (.cells #[] 45)
    have i1 := (hx.bound.below low).ints low.size
    have LX := Lib.hid lx
    clear lx hx
    go_enter Try.func142, Try.ntmps142
    go_wp2_with (first | (at_builtin; refine app_cells elemGate rfl _ _ rfl w.heap.size _ 0 [] rfl (own_nilC g0 (Nat.le_refl _)) (some a) n c xs rfl i1 LX.out (by unfold maxLen; omega) (by omega) (by simp) ?_))
    intro v5 w5 ho5 hg5 _
    have Hb := Lib.hid (low.grown hg5 low.size (fun k e => by have e : w.heap.size = k := by simpa [Value.ownBlock] using e
                                                              omega))
    obtain ⟨A5, m5, c5, rfl, rfl⟩ := ownsRow_slice ho5
    have Ho := Lib.hid ho5
    clear ho5 hg5 g0 i1 low
    go_wp2_with fail
    go_ret
    exact ⟨A5, n, c5, rfl, LX.out, Ho.out, Hb.out⟩
end Go.Proofs.Ytegdlegndgdgiaa
