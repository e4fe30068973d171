/- The draws of circuits: whole circuits with input bits. No condition. -/
import Derived.Test.YtfpcjgolcbjnjaaProg
import Derived.Test.YtfpcjgolcbjnjaaCirH
import Derived.Test.YtfpcjgolcbjnjaaB1
import Derived.BigRegion
namespace Go.Proofs.Ytfpcjgolcbjnjaa
open Go Go.RowKit
/-- A circuit that was drawn. -/
def DrawnC (T : TypeId) (B g : Nat) (w : World) (e : Ending) (w' : World) : Prop :=
  ∃ (A0 : Option Addr) (n c0 : Nat) (z0 : List Int) (A1 : Option Addr) (m c1 : Nat) (z1 : List Int), e = .returned (.agg #[.slice A0 n c0, .slice A1 m c1]) ∧ (1 ≤ n ∧ n ≤ 24) ∧ m ≤ 4 ∧ gatesOk z0 n ∧ wiresOk z1 n ∧
    OwnA 3 w.heap.size w'.heap.size w' (.slice A0 n c0) n z0 ∧ OwnA 1 w.heap.size w'.heap.size w' (.slice A1 m c1) m z1 ∧ RunD T B g w w'
/-- The circuit that is being drawn, in a box behind the box of the result. -/
structure CaseAt (w wr : World) (T : TypeId) (B g : Nat) (v0 v1 : Value) (k j : Nat) (z0 z1 : List Int) : Prop where
  res : wr.heap[w.heap.size]? = some (.cells #[.slice none 0 0, .slice none 0 0] 27 (0, 0))
  box : wr.heap[w.heap.size + 1]? = some (.cells #[v0, v1] 27 (0, 0))
  o0 : wr.ownsRow (w.heap.size + 1 + 1) 86 3 v0 k (intVals z0)
  o1 : wr.ownsRow (w.heap.size + 1 + 1) 3 1 v1 j (intVals z1)
  ap : apart v0 v1
  run : RunD T B g w wr
theorem wiresOk.snoc {os : List Int} {n : Nat} {y : Int} (h : wiresOk os n) (hy : 0 ≤ y ∧ y < (n : Int)) : wiresOk (os ++ [y]) n := fun x hx => by
  rcases List.mem_append.1 hx with h1 | h1
  · exact h x h1
  · simp at h1; subst h1; exact hy
section
variable {w wr w1 : World} {T : TypeId} {B g k j : Nat} {v0 v1 : Value} {z0 z1 : List Int}
theorem CaseAt.draw (h : CaseAt w wr T B g v0 v1 k j z0 z1) (hc : Cur T B w1 g) (hg : wr.grownBy w1 (some g)) : CaseAt w w1 T B g v0 v1 k j z0 z1 := by
  have hl := h.run.lt
  exact ⟨heap_draw h.res hg (by omega), heap_draw h.box hg (by omega), own_cur h.o0 hg (by omega), own_cur h.o1 hg (by omega), h.ap, h.run.next hc hg⟩
theorem CaseAt.drew (h : CaseAt w wr T B g v0 v1 k j z0 z1) : CaseAt w wr.drew T B g v0 v1 k j z0 z1 := ⟨h.res, h.box, h.o0, h.o1, h.ap, h.run.drew⟩
theorem CaseAt.alloc (h : CaseAt w wr T B g v0 v1 k j z0 z1) (o : Obj) : CaseAt w (wr.alloc o) T B g v0 v1 k j z0 z1 := ⟨heap_alloc h.res o, heap_alloc h.box o, h.o0.alloc o, h.o1.alloc o, h.ap, h.run.alloc o⟩
theorem CaseAt.lt (h : CaseAt w wr T B g v0 v1 k j z0 z1) : w.heap.size + 1 < wr.heap.size := heap_lt h.box
/-- Gates are appended. -/
theorem CaseAt.app0 {g5 c5 : Nat} {x y z : Int} {o : Obj} (h : CaseAt w wr T B g v0 v1 k j z0 z1) (ho : w1.ownsRow (w.heap.size + 1 + 1) 86 3 (.slice (some ⟨g5, 0, none⟩) (k + 1) c5) (k + 1) (intVals z0 ++ [.int .i64 x, .int .i64 y, .int .i64 z]))
    (hg : (wr.alloc o).grownBy w1 v0.ownBlock) (hat : v0.ownBlock = some g5 ∨ g5 = wr.heap.size + 1) :
    CaseAt w (w1.setCell ⟨w.heap.size + 1, 0, none⟩ (.slice (some ⟨g5, 0, none⟩) (k + 1) c5)) T B g (.slice (some ⟨g5, 0, none⟩) (k + 1) c5) v1 (k + 1) j (z0 ++ [x, y, z]) z1 := by
  have ha := h.alloc o
  have hb : ∀ b, v0.ownBlock = some b → w.heap.size + 1 + 1 ≤ b := fun b e => (h.o0.lt b e).1
  have hne : ∀ b, b < w.heap.size + 1 + 1 → v0.ownBlock ≠ some b := fun b hl e => by have := hb b e; omega
  refine ⟨heap_far (heap_grown ha.res hg (hne _ (by omega))) (by simp) _, heap_set (heap_grown ha.box hg (hne _ (by omega))) _, ownsRow_setCell_below (a := ⟨w.heap.size + 1, 0, none⟩) (by rw [show intVals (z0 ++ [x, y, z]) = intVals z0 ++ [.int .i64 x, .int .i64 y, .int .i64 z] by simp [intVals]]; exact ho) (by show w.heap.size + 1 < _; omega) _, ownsRow_setCell_below (a := ⟨w.heap.size + 1, 0, none⟩) (ha.o1.kept hg ?_) (by show w.heap.size + 1 < _; omega) _, ?_, (ha.run.own ha.o0 hg (by omega)).set (by omega) _ _⟩
  · rcases hv : v1.ownBlock with _ | b
    · exact .inl rfl
    · exact .inr (fun e => h.ap b e.symm hv)
  · intro b e e'
    have e2 : g5 = b := by simpa [Value.ownBlock] using e
    subst e2
    rcases hat with e3 | e3
    · exact h.ap _ e3 e'
    · have := (h.o1.lt _ e').2; omega
/-- Output wires are appended. -/
theorem CaseAt.app1 {g5 c5 : Nat} {x : Int} {o : Obj} (h : CaseAt w wr T B g v0 v1 k j z0 z1) (ho : w1.ownsRow (w.heap.size + 1 + 1) 3 1 (.slice (some ⟨g5, 0, none⟩) (j + 1) c5) (j + 1) (intVals z1 ++ [.int .i64 x]))
    (hg : (wr.alloc o).grownBy w1 v1.ownBlock) (hat : v1.ownBlock = some g5 ∨ g5 = wr.heap.size + 1) :
    CaseAt w (w1.setCell ⟨w.heap.size + 1, 1, none⟩ (.slice (some ⟨g5, 0, none⟩) (j + 1) c5)) T B g v0 (.slice (some ⟨g5, 0, none⟩) (j + 1) c5) k (j + 1) z0 (z1 ++ [x]) := by
  have ha := h.alloc o
  have hb : ∀ b, v1.ownBlock = some b → w.heap.size + 1 + 1 ≤ b := fun b e => (h.o1.lt b e).1
  have hne : ∀ b, b < w.heap.size + 1 + 1 → v1.ownBlock ≠ some b := fun b hl e => by have := hb b e; omega
  refine ⟨heap_far (heap_grown ha.res hg (hne _ (by omega))) (by simp) _, heap_set (heap_grown ha.box hg (hne _ (by omega))) _, ownsRow_setCell_below (a := ⟨w.heap.size + 1, 1, none⟩) (ha.o0.kept hg ?_) (by show w.heap.size + 1 < _; omega) _, ownsRow_setCell_below (a := ⟨w.heap.size + 1, 1, none⟩) (by rw [show intVals (z1 ++ [x]) = intVals z1 ++ [.int .i64 x] by simp [intVals]]; exact ho) (by show w.heap.size + 1 < _; omega) _, ?_, (ha.run.own ha.o1 hg (by omega)).set (by omega) _ _⟩
  · rcases hv : v0.ownBlock with _ | b
    · exact .inl rfl
    · exact .inr (fun e => h.ap b hv e.symm)
  · intro b e e'
    have e2 : g5 = b := by simpa [Value.ownBlock] using e'
    subst e2
    rcases hat with e3 | e3
    · exact h.ap _ e e3
    · have := (h.o0.lt _ e).2; omega
end
set_option maxRecDepth 100000 in
set_option maxHeartbeats 4000000 in
theorem l13Case_any (B g : Nat) (w : World) (hc : Cur 95 B w g) :
    Calls Try.prog 44 #[.pointer (some ⟨g, 0, none⟩)] w (DrawnC 95 B g w) := by
  have hgl := hc.lt
  have t0 : CaseAt w ((w.alloc (.cells #[.slice none 0 0, .slice none 0 0] 27)).alloc (.cells #[.slice none 0 0, .slice none 0 0] 27)) 95 B g (.slice none 0 0) (.slice none 0 0) 0 0 [] [] :=
    ⟨heap_alloc (heap_alloc_new w _) _, new_at _ _ _ (by simp), World.ownsRow_nil _ _ _ _, World.ownsRow_nil _ _ _ _, apart.nil _ _ _, ((RunD.start hc).alloc _).alloc _⟩
  go_enter Try.func44, Try.ntmps44
  go_wp2_with fail
  refine (l01Below_any B g 24 _ t0.run.cur).mono ?_
  rintro e w1 ⟨d, rfl, ⟨_, hd⟩, hc1, hg1⟩
  obtain ⟨hd0, hd1⟩ := hd (by omega)
  obtain ⟨dn, rfl⟩ := Int.eq_ofNat_of_zero_le hd0
  have t1 := t0.draw hc1 hg1
  clear hc1 hg1 t0 hc hd
  have hdn : dn < 24 := by omega
  go_wp2_with fail
  obtain ⟨n, hn⟩ : ∃ n : Nat, (1 : Int) + dn = n := ⟨1 + dn, by omega⟩
  rw [hn]
  have hn1 : 1 ≤ n ∧ n ≤ 24 := by omega
  obtain ⟨n1, n24⟩ := hn1
  clear hn hd0 hd1 hdn
  go_loopw [5] (fun i wr => ∃ (k : Nat) (v0 : Value) (z0 : List Int), k ≤ n ∧ i = .int .i64 k ∧ z0.length = k * 3 ∧ gatesOk z0 k ∧ CaseAt w wr 95 B g v0 (.slice none 0 0) k 0 z0 []) (fun i _ => n - (intOf i).toNat)
  case atStart => exact ⟨0, _, [], Nat.zero_le _, rfl, rfl, (fun i hi => by omega), t1⟩
  case round =>
    obtain ⟨k, v0, z0, hk, rfl, hz, hok, t⟩ := hrel
    clear t1
    by_cases hlt : k < n
    · have td := t.drew
      have c0 := (blk (i := 0) t.box rfl).1
      have hw := t.lt
      have k1 : (k : Int) < n := by omega
      have k0 : (0 : Int) ≤ k := by omega
      have Hok := Lib.hid hok
      have Hz := Lib.hid hz
      clear hok hz
      go_upto_region 6 with (fail)
      go_region_law (first
        | (refine app_step (e' := 86) elemGate (by rfl) _ _ (by rfl) (w.heap.size + 1 + 1) v0 k (intVals z0) (by rfl) (t3.alloc (.cells #[.int .i64 x, .int .i64 y, .int .i64 z] 86)).o0 w3.heap.size 1 1 _ (0, 0) (by rfl) (heap_alloc_new w3 _) (by rfl) (oneCell_i64 [_, _, _]) (by omega) (by unfold maxLen; omega) (by omega) (by simp; omega) (w3.heap.size + 1) (by simp) ?_; intro g5 e5 w5 ho5 hg5 hat5 hl5; (have bx5 := heap_grown (t3.alloc (.cells #[.int .i64 x, .int .i64 y, .int .i64 z] 86)).box hg5 (fun e => by have := (t3.o0.lt _ e).1; omega)); (obtain ⟨a5, f5⟩ := blk (i := 0) bx5 rfl))
        | (go_simp; go_at_call 79; (with_reducible refine (l13Gate_any B g k _ td.run.cur (by omega)).mono ?_); rintro e w3 ⟨x, y, z, rfl, hgo, R3⟩; (have t3 := td.draw R3.cur R3.gr); (have w3l := t3.lt); (have d0 := (blk (i := 0) t3.box rfl).1); (have d1 := (blk (i := 0) (t3.alloc (.cells #[.int .i64 x, .int .i64 y, .int .i64 z] 86)).box rfl).1)))
      all_goals
        have T5 := Lib.hid (t3.app0 ho5 hg5 hat5)
        have Hgo := Lib.hid hgo
        clear bx5 a5 d0 d1 t3 ho5 hg5 hat5 hl5 R3 c0 td t hgo w3l
        go_wp2_with fail
        go_roundw
        case rel => exact ⟨k + 1, _, _, by omega, by go_num, by rw [List.length_append, Hz.out]; simp; omega, gatesOk_snoc Hz.out Hok.out Hgo.out, T5.out⟩
        case measure => simp [intOf]; omega
    · obtain rfl : k = n := by omega
      have Hok := Lib.hid hok
      have Hz := Lib.hid hz
      have T := Lib.hid t
      have k0 : (0 : Int) < k := by omega
      clear hok hz t hlt
      go_wp2_with fail
      go_loopw [6] (fun i wr => ∃ (j : Nat) (v1 : Value) (z1 : List Int), j ≤ 4 ∧ i = .int .i64 j ∧ wiresOk z1 k ∧ CaseAt w wr 95 B g v0 v1 k j z0 z1) (fun i _ => 4 - (intOf i).toNat)
      case atStart => exact ⟨0, _, [], Nat.zero_le _, rfl, (fun x hx => by simp at hx), T.out⟩
      case round =>
        obtain ⟨j, v1, z1, hj, rfl, hw1, t⟩ := hrel
        clear T
        have j0 : (0 : Int) ≤ j := by omega
        go_wp2_with fail
        refine (l01Below_any B g 4 _ t.run.cur).mono ?_
        rintro e w2 ⟨r, rfl, ⟨_, hr⟩, hc2, hg2⟩
        obtain ⟨r0, r1⟩ := hr (by omega)
        have t2 := t.draw hc2 hg2
        clear hc2 hg2 t hr
        have Hw1 := Lib.hid hw1
        clear hw1
        by_cases hlt : (j : Int) < 1 + r
        · have td := t2.drew
          have c1 := (blk (i := 1) t2.box rfl).1
          have hw := t2.lt
          go_upto_region 10 with (fail)
          go_region_law (first
            | (refine app_step (e' := 3) elemInt (by rfl) _ _ (by rfl) (w.heap.size + 1 + 1) v1 j (intVals z1) (by rfl) (t3.alloc (.cells #[.int .i64 x] 3)).o1 w3.heap.size 1 1 _ (0, 0) (by rfl) (heap_alloc_new w3 _) (by rfl) (oneCell_i64 [_]) (by omega) (by unfold maxLen; omega) (by omega) (by simp; omega) (w3.heap.size + 1) (by simp) ?_; intro g5 e5 w5 ho5 hg5 hat5 hl5; (have bx5 := heap_grown (t3.alloc (.cells #[.int .i64 x] 3)).box hg5 (fun e => by have := (t3.o1.lt _ e).1; omega)); (obtain ⟨a5, f5⟩ := blk (i := 1) bx5 rfl))
            | (go_simp; go_at_call 78; (with_reducible refine (l01Below_any B g (k : Int) _ td.run.cur).mono ?_); rintro e w3 ⟨x, rfl, ⟨_, hx⟩, hc3, hg3⟩; (have t3 := td.draw hc3 hg3); (have w3l := t3.lt); (have d0 := (blk (i := 1) t3.box rfl).1); (have d1 := (blk (i := 1) (t3.alloc (.cells #[.int .i64 x] 3)).box rfl).1)))
          all_goals
            have T5 := Lib.hid (t3.app1 ho5 hg5 hat5)
            have Hx := Lib.hid (hx k0)
            clear bx5 a5 d0 d1 t3 ho5 hg5 hat5 hl5 hc3 hg3 c1 td t2 hx w3l
            go_wp2_with fail
            go_roundw
            case rel => exact ⟨j + 1, _, _, by omega, by go_num, Hw1.out.snoc Hx.out, T5.out⟩
            case measure => simp [intOf]; omega
        · obtain ⟨A0, K0, d0, rfl, rfl⟩ := ownsRow_slice t2.o0
          obtain ⟨A1, K1, d1, rfl, rfl⟩ := ownsRow_slice t2.o1
          have c0 := (blk (i := 0) t2.box rfl).1
          have c1 := (blk (i := 1) t2.box rfl).1
          obtain ⟨e0, f0⟩ := blk (i := 0) t2.res rfl
          obtain ⟨e1, f1⟩ := blk (i := 1) t2.res rfl
          have T2 := Lib.hid t2
          clear t2
          go_wp2_with fail
          (try simp only [Exit.inBlock, Exit.then])
          refine bodyPost_ret (results_cell_row (P := Try.prog) rfl _ _ w.heap.size 27 _ (0, 0) _ rfl (heap_set (heap_set T2.out.res _) _) Try.underlying27 rfl (by kernel_rfl)) rfl ?_
          have o0 := ((OwnA.of_own T2.out.o0).setFar (g := w.heap.size) (i := 0) (by omega) (.slice A0 k d0)).setFar (g := w.heap.size) (i := 1) (by omega) (.slice A1 j d1)
          have o1 := ((OwnA.of_own T2.out.o1).setFar (g := w.heap.size) (i := 0) (by omega) (.slice A0 k d0)).setFar (g := w.heap.size) (i := 1) (by omega) (.slice A1 j d1)
          exact ⟨A0, k, d0, z0, A1, j, d1, z1, rfl, ⟨n1, n24⟩, hj, Hok.out, Hw1.out, o0.wide (by omega) (by simp), o1.wide (by omega) (by simp), (T2.out.run.set (Nat.le_refl _) 0 _).set (Nat.le_refl _) 1 _⟩
end Go.Proofs.Ytfpcjgolcbjnjaa
