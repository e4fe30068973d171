/- The program's FormatStmt. -/
import Derived.Test.YtjclhlicginekaaGreatDoorProg
import Derived.Test.YtjclhlicginekaaGreatDoorSrcG
import Derived.Test.YtjclhlicginekaaGreatDoorSrcI
import Derived.Test.YtjclhlicginekaaGreatDoorStmtE
import Derived.Test.YtjclhlicginekaaGreatDoorStmtJ
import Derived.Deep.RegionHeld3
namespace Go.Proofs.YtjclhlicginekaaGreatDoor
open Go Go.RowKit
theorem keep_six1 {f : Nat} {args : Array Value} {w W : World} {r : Value} {g : Nat} {op d a b c n : Int} (h : Calls Tryz.prog f args W fun e w' => e = .returned r ∧ Below W.heap.size W w')
    (k0 : W.cell? ⟨g, 0, none⟩ = some (.int .i64 op)) (k1 : W.cell? ⟨g, 1, none⟩ = some (.int .i64 d)) (k2 : W.cell? ⟨g, 2, none⟩ = some (.int .i64 a)) (k3 : W.cell? ⟨g, 3, none⟩ = some (.int .i64 b)) (k4 : W.cell? ⟨g, 4, none⟩ = some (.int .i64 c)) (k5 : W.cell? ⟨g, 5, none⟩ = some (.int .i64 n)) (hb : Below g w W) :
    Calls Tryz.prog f args W fun e w' => e = .returned r ∧ w'.cell? ⟨g, 0, none⟩ = some (.int .i64 op) ∧ w'.cell? ⟨g, 1, none⟩ = some (.int .i64 d) ∧ w'.cell? ⟨g, 2, none⟩ = some (.int .i64 a) ∧ w'.cell? ⟨g, 3, none⟩ = some (.int .i64 b) ∧ w'.cell? ⟨g, 4, none⟩ = some (.int .i64 c) ∧ w'.cell? ⟨g, 5, none⟩ = some (.int .i64 n) ∧ Below g w w' := by
  have hl : g < W.heap.size := World.block_lt_of_cell? W _ k0
  refine h.mono ?_
  rintro e w' ⟨rfl, h1⟩
  exact ⟨rfl, (h1.cell (p := ⟨g, 0, none⟩) hl).trans k0, (h1.cell (p := ⟨g, 1, none⟩) hl).trans k1, (h1.cell (p := ⟨g, 2, none⟩) hl).trans k2, (h1.cell (p := ⟨g, 3, none⟩) hl).trans k3, (h1.cell (p := ⟨g, 4, none⟩) hl).trans k4, (h1.cell (p := ⟨g, 5, none⟩) hl).trans k5, hb.trans (h1.mono (Nat.le_of_lt hl))⟩
theorem sourceForms_six {w W : World} {g : Nat} {op d a b c n : Int}
    (k0 : W.cell? ⟨g, 0, none⟩ = some (.int .i64 op)) (k1 : W.cell? ⟨g, 1, none⟩ = some (.int .i64 d)) (k2 : W.cell? ⟨g, 2, none⟩ = some (.int .i64 a)) (k3 : W.cell? ⟨g, 3, none⟩ = some (.int .i64 b)) (k4 : W.cell? ⟨g, 4, none⟩ = some (.int .i64 c)) (k5 : W.cell? ⟨g, 5, none⟩ = some (.int .i64 n)) (hb : Below g w W) :
    Calls Tryz.prog 21 #[] W fun e w' => ∃ B, e = .returned (.map (some (B + 1))) ∧ Forms B w' ∧ w'.cell? ⟨g, 0, none⟩ = some (.int .i64 op) ∧ w'.cell? ⟨g, 1, none⟩ = some (.int .i64 d) ∧ w'.cell? ⟨g, 2, none⟩ = some (.int .i64 a) ∧ w'.cell? ⟨g, 3, none⟩ = some (.int .i64 b) ∧ w'.cell? ⟨g, 4, none⟩ = some (.int .i64 c) ∧ w'.cell? ⟨g, 5, none⟩ = some (.int .i64 n) ∧ Below g w w' := by
  have hl : g < W.heap.size := World.block_lt_of_cell? W _ k0
  refine (sourceForms_any W).mono ?_
  rintro e w' ⟨rfl, hf, h1⟩
  exact ⟨_, rfl, hf, (h1.cell (p := ⟨g, 0, none⟩) hl).trans k0, (h1.cell (p := ⟨g, 1, none⟩) hl).trans k1, (h1.cell (p := ⟨g, 2, none⟩) hl).trans k2, (h1.cell (p := ⟨g, 3, none⟩) hl).trans k3, (h1.cell (p := ⟨g, 4, none⟩) hl).trans k4, (h1.cell (p := ⟨g, 5, none⟩) hl).trans k5, hb.trans (h1.mono (Nat.le_of_lt hl))⟩
theorem tab_at {g : Nat} {w W : World} (ht : TabOk w) (hb : Below g w W) (hg : 8 ≤ g) : TabOk W := ht.below hb hg
theorem top_at {g : Nat} {w W : World} (hz : 8 ≤ w.heap.size) (hb : Below g w W) : 8 ≤ W.heap.size := Nat.le_trans hz hb.size
set_option maxRecDepth 100000 in
set_option maxHeartbeats 1000000 in
theorem impl_FormatStmt_yes (op d a b c n : Int) (w : World) (hs : St.ok ⟨op, d, a, b, c, n⟩) (ht : TabOk w) (hz : 8 ≤ w.heap.size) :
    Calls Tryz.prog 10 #[.agg #[.int .i64 op, .int .i64 d, .int .i64 a, .int .i64 b, .int .i64 c, .int .i64 n]] w fun e w' => e = .returned (.tuple #[.string ⟨(fmtL ⟨op, d, a, b, c, n⟩).toArray⟩, .bool true]) ∧ Below w.heap.size w w' := by
  have ok := impl_StmtOk op d a b c n
  rw [decide_eq_true (show okI op d a b c n from hs)] at ok
  have cf := fun B W h1 h2 h3 => formatWith_any B op d a b c n W hs h1 h2 h3
  obtain ⟨t, ht2⟩ : ∃ t : ByteArray, t = ⟨(fmtL ⟨op, d, a, b, c, n⟩).toArray⟩ := ⟨_, rfl⟩
  rw [← ht2] at cf ⊢
  clear ht2 hs
  have hblk0 := heap_alloc_new w (.cells #[.int .i64 op, .int .i64 d, .int .i64 a, .int .i64 b, .int .i64 c, .int .i64 n] 34)
  go_enter Tryz.func10, Tryz.ntmps10
  go_wp2_with fail
  refine (ok _).mono ?_
  rintro e w1 ⟨rfl, hb⟩
  have hblk := heap_below hblk0 hb
  have b0 : Below w.heap.size w w1 := (below_alloc _ _).trans (hb.mono (by simp))
  clear hb hblk0 ok
  have k0 := (blk (i := 0) hblk rfl).1
  have k1 := (blk (i := 1) hblk rfl).1
  have k2 := (blk (i := 2) hblk rfl).1
  have k3 := (blk (i := 3) hblk rfl).1
  have k4 := (blk (i := 4) hblk rfl).1
  have k5 := (blk (i := 5) hblk rfl).1
  clear hblk
  have hz2 := hz
  generalize hg : w.heap.size = g at *
  rw [← hg] at hz2
  have Hg := Lib.hid hg
  clear hg
  go_wp2_with fail
  have b1 := b0.drew
  go_region_held3 (fun w' => w'.cell? ⟨g, 0, none⟩ = some (.int .i64 op) ∧ w'.cell? ⟨g, 1, none⟩ = some (.int .i64 d) ∧ w'.cell? ⟨g, 2, none⟩ = some (.int .i64 a) ∧ w'.cell? ⟨g, 3, none⟩ = some (.int .i64 b) ∧ w'.cell? ⟨g, 4, none⟩ = some (.int .i64 c) ∧ w'.cell? ⟨g, 5, none⟩ = some (.int .i64 n) ∧ Below g w w') (refine ⟨?_, ?_, ?_, ?_, ?_, ?_, ?_⟩ <;> first | assumption | (simp [*]; done)) (first
    | (go_at_call 21; (with_reducible refine (sourceForms_six (g := g) (op := op) (d := d) (a := a) (b := b) (c := c) (n := n) (w := w) ?_ ?_ ?_ ?_ ?_ ?_ ?_).mono ?_); assumption; assumption; assumption; assumption; assumption; assumption; assumption; rintro e w' ⟨B, rfl, hf, q0, q1, q2, q3, q4, q5, q6⟩)
    | (go_at_call 23; (with_reducible refine (keep_six1 (cf B _ hf (tab_at ht q6 hz) (top_at hz2 q6)) (g := g) (op := op) (d := d) (a := a) (b := b) (c := c) (n := n) (w := w) ?_ ?_ ?_ ?_ ?_ ?_ ?_).mono ?_); assumption; assumption; assumption; assumption; assumption; assumption; assumption; rintro e w' ⟨rfl, r0, r1, r2, r3, r4, r5, r6⟩))
  all_goals
    go_wp2_with fail
    go_ret2
    exact ⟨rfl, by first | assumption | (rw [Hg.out]; assumption)⟩
set_option maxRecDepth 100000 in
theorem impl_FormatStmt_no (op d a b c n : Int) (w : World) (hs : ¬ St.ok ⟨op, d, a, b, c, n⟩) :
    Calls Tryz.prog 10 #[.agg #[.int .i64 op, .int .i64 d, .int .i64 a, .int .i64 b, .int .i64 c, .int .i64 n]] w fun e w' => e = .returned (.tuple #[.string ⟨#[]⟩, .bool false]) ∧ Below w.heap.size w w' := by
  have ok := impl_StmtOk op d a b c n
  rw [decide_eq_false (show ¬ okI op d a b c n from hs)] at ok
  clear hs
  go_enter Tryz.func10, Tryz.ntmps10
  go_wp2_with fail
  refine (ok _).mono ?_
  rintro e w1 ⟨rfl, hb⟩
  have b0 : Below w.heap.size w w1 := (below_alloc _ _).trans (hb.mono (by simp))
  clear hb ok
  go_wp2_with fail
  go_ret2
  exact ⟨rfl, b0⟩
end Go.Proofs.YtjclhlicginekaaGreatDoor
