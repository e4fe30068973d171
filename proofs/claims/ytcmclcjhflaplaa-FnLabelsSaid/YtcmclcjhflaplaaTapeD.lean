/- The draws of tapes. -/
import Derived.Test.YtcmclcjhflaplaaProg
import Derived.Test.YtcmclcjhflaplaaWordsD
import Derived.Test.YtcmclcjhflaplaaTapeM
import Derived.Test.YtcmclcjhflaplaaBox
namespace Go.Proofs.Ytcmclcjhflaplaa
open Go Go.RowKit
theorem grown_set_new {w w1 : World} {g G : Nat} (h : w.grownBy w1 (some g)) (hG : w.heap.size ≤ G) (i : Nat) (v : Value) : w.grownBy (w1.setCell ⟨G, i, none⟩ v) (some g) :=
  ⟨h.os, h.tape, h.output, by simpa [World.setCell] using h.size, fun k hk hne => (Below.heap_setCell _ _ _ k (by simp; omega)).trans (h.block k hk hne)⟩
theorem box2_grown {w w' : World} {g g' : Nat} {T : TypeId} {x y : Value} (h : w.heap[g]? = some (.cells #[x, y] T (0, 0))) (hg : w.grownBy w' (some g')) (hne : g ≠ g') : w'.heap[g]? = some (.cells #[x, y] T (0, 0)) :=
  (hg.block _ (Array.getElem?_eq_some_iff.1 h).1 (fun e => hne (by injection e))).trans h
/-- A tape that was drawn; of what there was, only the cursor's block has turned. -/
def DrawnTape (T : TypeId) (B g : Nat) (w : World) (e : Ending) (w' : World) : Prop :=
  ∃ s a : Int, e = .returned (.agg #[.int .i64 s, .int .i64 a]) ∧ isWord s ∧ 0 ≤ a ∧ a < 50 ∧ Cur T B w' g ∧ w.grownBy w' (some g)
theorem l04Tape_any (B g : Nat) (w : World) (hc : Cur 52 B w g) :
    Calls Try.prog 24 #[.pointer (some ⟨g, 0, none⟩)] w (DrawnTape 52 B g w) := by
  have hgl := hc.lt
  have hc0 := hc.alloc (.cells #[.int .i64 0, .int .i64 0] 25)
  have h0 := heap_alloc_new w (.cells #[.int .i64 0, .int .i64 0] 25)
  have g0 := World.grownBy_alloc w (.cells #[.int .i64 0, .int .i64 0] 25) (some g)
  go_enter Try.func24, Try.ntmps24
  go_wp2_with fail
  refine (l02Word_any B g _ hc0).mono ?_
  rintro e w1 ⟨s, rfl, hs, hc1, hg1⟩
  have h1 := box2_grown h0 hg1 (by omega)
  have g1 := g0.trans hg1
  clear hc0 h0 g0 hg1
  go_wp2_with fail
  refine (l01Below_any B g 50 w1 hc1).mono ?_
  rintro e w2 ⟨a, rfl, ⟨_, ha⟩, hc2, hg2⟩
  obtain ⟨ha0, ha1⟩ := ha (by omega)
  have h2 := box2_grown h1 hg2 (by omega)
  have g2 := g1.trans hg2
  clear ha h1 g1 hg2 hc1
  obtain ⟨r0, r1, r2, r3⟩ := box2 h2
  have Hs := Lib.hid hs
  have h5 := box2_set h2 (.int .i64 s) (.int .i64 a)
  have hc5 := (hc2.grown (grownBy_set w2 w.heap.size 0 (.int .i64 s)) (fun k e => by injection e with e; omega)).grown (grownBy_set _ w.heap.size 1 (.int .i64 a)) (fun k e => by injection e with e; omega)
  have g5 := grown_set_new (grown_set_new g2 (Nat.le_refl _) 0 (.int .i64 s)) (Nat.le_refl _) 1 (.int .i64 a)
  clear h2 hc2 g2 hs
  go_wp2_with fail
  (try simp only [Exit.inBlock, Exit.then])
  refine bodyPost_ret (results_cell_row (P := Try.prog) rfl _ _ w.heap.size 25 _ (0, 0) _ rfl h5 Try.underlying25 rfl (by kernel_rfl)) rfl ?_
  exact ⟨s, a, rfl, Hs.out, ha0, ha1, hc5, g5⟩
theorem DrawTape_any (A : Option Addr) (n c : Nat) (w : World) (hb : Bytes w.heap.size w A n) (hn : n ≤ 2000000) :
    Calls Try.prog 10 #[.slice A n c] w fun e w' => ∃ s a : Int, e = .returned (.agg #[.int .i64 s, .int .i64 a]) ∧ isWord s ∧ 0 ≤ a ∧ a < 50 ∧ Below w.heap.size w w' := by
  have b0 := (Below.refl w.heap.size w).alloc (Nat.le_refl _) (.cells #[.int .i64 0, .int .i64 0] 25)
  have hb0 : Bytes (w.alloc (.cells #[.int .i64 0, .int .i64 0] 25)).heap.size (w.alloc (.cells #[.int .i64 0, .int .i64 0] 25)) A n := fun h => by
    obtain ⟨b, o, e, hl, hc⟩ := (hb.keep fun k hk => b0.block k hk) h
    exact ⟨b, o, e, by simp; omega, hc⟩
  have h0 := heap_alloc_new w (.cells #[.int .i64 0, .int .i64 0] 25)
  go_enter Try.func10, Try.ntmps10
  go_wp2_with fail
  refine (l01New_any A n c _ hb0 hn).mono ?_
  rintro e w1 ⟨g, rfl, hc1, hb1⟩
  have h1 := box2_below h0 hb1
  have b1 := b0.trans (hb1.mono (by simp))
  have hgl : w.heap.size < g := by have := hc1.1; simp at this; omega
  clear h0 hb1 hb0 b0
  go_wp2_with fail
  refine (l04Tape_any _ g w1 hc1).mono ?_
  rintro e w2 ⟨s, a, rfl, hs, ha0, ha1, hc2, hg2⟩
  have h2 := box2_grown h1 hg2 (by omega)
  have b2 : Below w.heap.size w w2 := b1.grown hg2 (by have := b1.size; omega) (fun k e => by injection e with e; omega)
  clear hc1 hg2 h1 b1 hc2
  obtain ⟨r0, r1, r2, r3⟩ := box2 h2
  have Hs := Lib.hid hs
  have h5 := box2_set h2 (.int .i64 s) (.int .i64 a)
  have b5 := (b2.setCell (p := ⟨w.heap.size, 0, none⟩) (Nat.le_refl _) (.int .i64 s)).setCell (p := ⟨w.heap.size, 1, none⟩) (Nat.le_refl _) (.int .i64 a)
  clear h2 b2 hs
  go_wp2_with fail
  (try simp only [Exit.inBlock, Exit.then])
  refine bodyPost_ret (results_cell_row (P := Try.prog) rfl _ _ w.heap.size 25 _ (0, 0) _ rfl h5 Try.underlying25 rfl (by kernel_rfl)) rfl ?_
  exact ⟨s, a, rfl, Hs.out, ha0, ha1, b5⟩
end Go.Proofs.Ytcmclcjhflaplaa
