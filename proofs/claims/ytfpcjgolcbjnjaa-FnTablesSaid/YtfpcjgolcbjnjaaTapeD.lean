/- The draws of tapes. -/
import Derived.Test.YtfpcjgolcbjnjaaProg
import Derived.Test.YtfpcjgolcbjnjaaWordsD
import Derived.Test.YtfpcjgolcbjnjaaTapeM
import Derived.Test.YtfpcjgolcbjnjaaBox
namespace Go.Proofs.Ytfpcjgolcbjnjaa
open Go Go.RowKit
theorem grown_set_new {w w1 : World} {g G : Nat} (h : w.grownBy w1 (some g)) (hG : w.heap.size ≤ G) (i : Nat) (v : Value) : w.grownBy (w1.setCell ⟨G, i, none⟩ v) (some g) :=
  ⟨h.os, h.tape, h.output, by simpa [World.setCell] using h.size, fun k hk hne => (Below.heap_setCell _ _ _ k (by simp; omega)).trans (h.block k hk hne)⟩
theorem box2_grown {w w' : World} {g g' : Nat} {T : TypeId} {x y : Value} (h : w.heap[g]? = some (.cells #[x, y] T (0, 0))) (hg : w.grownBy w' (some g')) (hne : g ≠ g') : w'.heap[g]? = some (.cells #[x, y] T (0, 0)) :=
  (hg.block _ (Array.getElem?_eq_some_iff.1 h).1 (fun e => hne (by injection e))).trans h
/-- A tape that was drawn; of what there was, only the cursor's block has turned. -/
def DrawnTape (T : TypeId) (B g : Nat) (w : World) (e : Ending) (w' : World) : Prop :=
  ∃ s a : Int, e = .returned (.agg #[.int .i64 s, .int .i64 a]) ∧ isWord s ∧ 0 ≤ a ∧ a < 50 ∧ Cur T B w' g ∧ w.grownBy w' (some g)
theorem l04Tape_any (B g : Nat) (w : World) (hc : Cur 95 B w g) :
    Calls Try.prog 46 #[.pointer (some ⟨g, 0, none⟩)] w (DrawnTape 95 B g w) := by
  have hgl := hc.lt
  have hc0 := hc.alloc (.cells #[.int .i64 0, .int .i64 0] 29)
  have h0 := heap_alloc_new w (.cells #[.int .i64 0, .int .i64 0] 29)
  have g0 := World.grownBy_alloc w (.cells #[.int .i64 0, .int .i64 0] 29) (some g)
  go_enter Try.func46, Try.ntmps46
  go_wp2_with fail
  refine (l02Word_any B g _ hc0).mono ?_
  rintro e w1 ⟨s, rfl, hs, hc1, hg1⟩
  have h1 := box2_grown h0 hg1 (by omega)
  have g1 := g0.trans hg1
  clear hc0 h0 g0 hg1
  go_wp2_with fail
  refine (l01Below_any B g 50 w1 hc1).mono ?_
  rintro e w2 ⟨a, rfl, ⟨_, ha⟩, hc2, hg2⟩
  obtain ⟨ha0, ha1⟩ := ha (by omega)
  have h2 := box2_grown h1 hg2 (by omega)
  have g2 := g1.trans hg2
  clear ha h1 g1 hg2 hc1
  obtain ⟨r0, r1, r2, r3⟩ := box2 h2
  have Hs := Lib.hid hs
  have h5 := box2_set h2 (.int .i64 s) (.int .i64 a)
  have hc5 := (hc2.grown (grownBy_set w2 w.heap.size 0 (.int .i64 s)) (fun k e => by injection e with e; omega)).grown (grownBy_set _ w.heap.size 1 (.int .i64 a)) (fun k e => by injection e with e; omega)
  have g5 := grown_set_new (grown_set_new g2 (Nat.le_refl _) 0 (.int .i64 s)) (Nat.le_refl _) 1 (.int .i64 a)
  clear h2 hc2 g2 hs
  go_wp2_with fail
  (try simp only [Exit.inBlock, Exit.then])
  refine bodyPost_ret (results_cell_row (P := Try.prog) rfl _ _ w.heap.size 29 _ (0, 0) _ rfl h5 Try.underlying29 rfl (by kernel_rfl)) rfl ?_
  exact ⟨s, a, rfl, Hs.out, ha0, ha1, hc5, g5⟩
end Go.Proofs.Ytfpcjgolcbjnjaa
