/- The program's typed statements: the making of one. No condition. And what goes with it. -/
import Derived.Test.YtbbdmgomcpmhpaaProg
import Derived.Test.YtbbdmgomcpmhpaaB3
namespace Go.Proofs.Ytbbdmgomcpmhpaa
open Go Go.RowKit
set_option maxRecDepth 100000 in
theorem impl_new_none (op d a b c n : Int) (h : tyOf op d a b c n = none) (w : World) :
    Calls Try.prog 79 #[.agg #[.int .i64 op, .int .i64 d, .int .i64 a, .int .i64 b, .int .i64 c, .int .i64 n]] w fun e w' => e = .returned (.tuple #[.nilIface, .bool false]) ∧ Below w.heap.size w w' := by
  have c1 := impl_usedFields op d a b c n
  rw [h] at c1
  simp only [usedV] at c1
  clear h
  go_enter Try.func79, Try.ntmps79
  go_wp2_with fail
  refine (c1 _).mono ?_
  rintro e w1 ⟨rfl, hb⟩
  go_wp2_with fail
  go_quiet (fail)
  go_wp2_with fail
  go_ret2
  exact ⟨rfl, below_drewN ((below_alloc _ _).trans (hb.mono (by simp))) _⟩
def Ty.ty : Ty → TypeId
  | .con .. => 97
  | .inp .. => 99
  | .bin .. => 101
  | .mux .. => 103
  | .out .. => 105
  | .rep .. => 107
  | .fin => 109
theorem ty_v (t : Ty) : t.v = .iface t.ty t.g := by cases t <;> rfl
theorem ty_name (t : Ty) (w : World) : (method 275 t.ty t.g "loop.example/g00979/impl.stmt").run Try.prog w = .ok (t.fn, t.g) w := by cases t <;> kernel_rfl
theorem ty_call (t : Ty) (w : World) : (callFunc t.fn #[t.g]).run Try.prog w = .ok (.enter t.fn #[t.g]) w := by cases t <;> kernel_rfl
theorem keep_six {f : Nat} {args : Array Value} {w W : World} {r : Value} {g : Nat} {op d a b c n : Int} (h : ∀ w, Calls Try.prog f args w fun e w' => e = .returned r ∧ Below w.heap.size w w')
    (k0 : W.cell? ⟨g, 0, none⟩ = some (.int .i64 op)) (k1 : W.cell? ⟨g, 1, none⟩ = some (.int .i64 d)) (k2 : W.cell? ⟨g, 2, none⟩ = some (.int .i64 a)) (k3 : W.cell? ⟨g, 3, none⟩ = some (.int .i64 b)) (k4 : W.cell? ⟨g, 4, none⟩ = some (.int .i64 c)) (k5 : W.cell? ⟨g, 5, none⟩ = some (.int .i64 n)) (hb : Below g w W) :
    Calls Try.prog f args W fun e w' => e = .returned r ∧ w'.cell? ⟨g, 0, none⟩ = some (.int .i64 op) ∧ w'.cell? ⟨g, 1, none⟩ = some (.int .i64 d) ∧ w'.cell? ⟨g, 2, none⟩ = some (.int .i64 a) ∧ w'.cell? ⟨g, 3, none⟩ = some (.int .i64 b) ∧ w'.cell? ⟨g, 4, none⟩ = some (.int .i64 c) ∧ w'.cell? ⟨g, 5, none⟩ = some (.int .i64 n) ∧ Below g w w' := by
  have hl : g < W.heap.size := World.block_lt_of_cell? W _ k0
  refine (h W).mono ?_
  rintro e w' ⟨rfl, h1⟩
  exact ⟨rfl, (h1.cell (p := ⟨g, 0, none⟩) hl).trans k0, (h1.cell (p := ⟨g, 1, none⟩) hl).trans k1, (h1.cell (p := ⟨g, 2, none⟩) hl).trans k2, (h1.cell (p := ⟨g, 3, none⟩) hl).trans k3, (h1.cell (p := ⟨g, 4, none⟩) hl).trans k4, (h1.cell (p := ⟨g, 5, none⟩) hl).trans k5, hb.trans (h1.mono (Nat.le_of_lt hl))⟩
set_option maxRecDepth 100000 in
set_option maxHeartbeats 400000 in
theorem impl_new_yes (op d a b c n : Int) (t : Ty) (h : tyOf op d a b c n = some t) (hback : t.back = ⟨op, d, a, b, c, n⟩) (hr : t.regs) (hn : t.nums) (w : World) :
    Calls Try.prog 79 #[.agg #[.int .i64 op, .int .i64 d, .int .i64 a, .int .i64 b, .int .i64 c, .int .i64 n]] w fun e w' => e = .returned (.tuple #[t.v, .bool true]) ∧ Below w.heap.size w w' := by
  have c1 := impl_usedFields op d a b c n
  have c2 := impl_stmt t
  have c3 := impl_registersOk t
  have c4 := impl_numbersOk t
  have hm := ty_name t
  have hf := ty_call t
  rw [h] at c1
  rw [decide_eq_true hr] at c3
  rw [decide_eq_true hn] at c4
  rw [hback] at c2
  simp only [usedV, ty_v, St.v] at *
  generalize t.ty = T at *
  generalize t.g = G at *
  generalize t.fn = F at *
  clear h hback hr hn
  go_enter Try.func79, Try.ntmps79
  go_wp2_with fail
  refine (c1 _).mono ?_
  rintro e w1 ⟨rfl, hb⟩
  have hblk := heap_below (heap_alloc_new w (.cells #[.int .i64 op, .int .i64 d, .int .i64 a, .int .i64 b, .int .i64 c, .int .i64 n] 56)) hb
  have b0 : Below w.heap.size w w1 := (below_alloc _ _).trans (hb.mono (by simp))
  have k0 := (blk (i := 0) hblk rfl).1
  have k1 := (blk (i := 1) hblk rfl).1
  have k2 := (blk (i := 2) hblk rfl).1
  have k3 := (blk (i := 3) hblk rfl).1
  have k4 := (blk (i := 4) hblk rfl).1
  have k5 := (blk (i := 5) hblk rfl).1
  clear hblk hb
  generalize hg : w.heap.size = g at *
  go_wp2_with fail
  have b1 := b0.drew
  go_region_held3 (fun w' => w'.cell? ⟨g, 0, none⟩ = some (.int .i64 op) ∧ w'.cell? ⟨g, 1, none⟩ = some (.int .i64 d) ∧ w'.cell? ⟨g, 2, none⟩ = some (.int .i64 a) ∧ w'.cell? ⟨g, 3, none⟩ = some (.int .i64 b) ∧ w'.cell? ⟨g, 4, none⟩ = some (.int .i64 c) ∧ w'.cell? ⟨g, 5, none⟩ = some (.int .i64 n) ∧ Below g w w') (refine ⟨?_, ?_, ?_, ?_, ?_, ?_, ?_⟩ <;> first | assumption | (simp [*]; done)) (first
    | (go_at_call 95; (with_reducible refine (keep_six c3 (g := g) (op := op) (d := d) (a := a) (b := b) (c := c) (n := n) (w := w) ?_ ?_ ?_ ?_ ?_ ?_ ?_).mono ?_); assumption; assumption; assumption; assumption; assumption; assumption; assumption; rintro e w' ⟨rfl, q0, q1, q2, q3, q4, q5, q6⟩)
    | (go_at_call 96; (with_reducible refine (keep_six c4 (g := g) (op := op) (d := d) (a := a) (b := b) (c := c) (n := n) (w := w) ?_ ?_ ?_ ?_ ?_ ?_ ?_).mono ?_); assumption; assumption; assumption; assumption; assumption; assumption; assumption; rintro e w' ⟨rfl, q0, q1, q2, q3, q4, q5, q6⟩)
    | ((with_reducible refine (keep_six c2 (g := g) (op := op) (d := d) (a := a) (b := b) (c := c) (n := n) (w := w) ?_ ?_ ?_ ?_ ?_ ?_ ?_).mono ?_); assumption; assumption; assumption; assumption; assumption; assumption; assumption; rintro e w' ⟨rfl, q0, q1, q2, q3, q4, q5, q6⟩))
  all_goals
    go_wp2_with fail
    go_ret2
    exact ⟨rfl, by first | assumption | (rw [hg]; assumption)⟩
set_option maxRecDepth 100000 in
set_option maxHeartbeats 400000 in
theorem impl_new_nums (op d a b c n : Int) (t : Ty) (h : tyOf op d a b c n = some t) (hback : t.back = ⟨op, d, a, b, c, n⟩) (hr : t.regs) (hn : ¬ t.nums) (w : World) :
    Calls Try.prog 79 #[.agg #[.int .i64 op, .int .i64 d, .int .i64 a, .int .i64 b, .int .i64 c, .int .i64 n]] w fun e w' => e = .returned (.tuple #[.nilIface, .bool false]) ∧ Below w.heap.size w w' := by
  have c1 := impl_usedFields op d a b c n
  have c2 := impl_stmt t
  have c3 := impl_registersOk t
  have c4 := impl_numbersOk t
  have hm := ty_name t
  have hf := ty_call t
  rw [h] at c1
  rw [decide_eq_true hr] at c3
  rw [decide_eq_false hn] at c4
  rw [hback] at c2
  simp only [usedV, ty_v, St.v] at *
  generalize t.ty = T at *
  generalize t.g = G at *
  generalize t.fn = F at *
  clear h hback hr hn
  go_enter Try.func79, Try.ntmps79
  go_wp2_with fail
  refine (c1 _).mono ?_
  rintro e w1 ⟨rfl, hb⟩
  have hblk := heap_below (heap_alloc_new w (.cells #[.int .i64 op, .int .i64 d, .int .i64 a, .int .i64 b, .int .i64 c, .int .i64 n] 56)) hb
  have b0 : Below w.heap.size w w1 := (below_alloc _ _).trans (hb.mono (by simp))
  have k0 := (blk (i := 0) hblk rfl).1
  have k1 := (blk (i := 1) hblk rfl).1
  have k2 := (blk (i := 2) hblk rfl).1
  have k3 := (blk (i := 3) hblk rfl).1
  have k4 := (blk (i := 4) hblk rfl).1
  have k5 := (blk (i := 5) hblk rfl).1
  clear hblk hb
  generalize hg : w.heap.size = g at *
  go_wp2_with fail
  have b1 := b0.drew
  go_region_held3 (fun w' => w'.cell? ⟨g, 0, none⟩ = some (.int .i64 op) ∧ w'.cell? ⟨g, 1, none⟩ = some (.int .i64 d) ∧ w'.cell? ⟨g, 2, none⟩ = some (.int .i64 a) ∧ w'.cell? ⟨g, 3, none⟩ = some (.int .i64 b) ∧ w'.cell? ⟨g, 4, none⟩ = some (.int .i64 c) ∧ w'.cell? ⟨g, 5, none⟩ = some (.int .i64 n) ∧ Below g w w') (refine ⟨?_, ?_, ?_, ?_, ?_, ?_, ?_⟩ <;> first | assumption | (simp [*]; done)) (first
    | (go_at_call 95; (with_reducible refine (keep_six c3 (g := g) (op := op) (d := d) (a := a) (b := b) (c := c) (n := n) (w := w) ?_ ?_ ?_ ?_ ?_ ?_ ?_).mono ?_); assumption; assumption; assumption; assumption; assumption; assumption; assumption; rintro e w' ⟨rfl, q0, q1, q2, q3, q4, q5, q6⟩)
    | (go_at_call 96; (with_reducible refine (keep_six c4 (g := g) (op := op) (d := d) (a := a) (b := b) (c := c) (n := n) (w := w) ?_ ?_ ?_ ?_ ?_ ?_ ?_).mono ?_); assumption; assumption; assumption; assumption; assumption; assumption; assumption; rintro e w' ⟨rfl, q0, q1, q2, q3, q4, q5, q6⟩)
    | ((with_reducible refine (keep_six c2 (g := g) (op := op) (d := d) (a := a) (b := b) (c := c) (n := n) (w := w) ?_ ?_ ?_ ?_ ?_ ?_ ?_).mono ?_); assumption; assumption; assumption; assumption; assumption; assumption; assumption; rintro e w' ⟨rfl, q0, q1, q2, q3, q4, q5, q6⟩))
  all_goals
    go_wp2_with fail
    go_ret2
    exact ⟨rfl, by first | assumption | (rw [hg]; assumption)⟩
end Go.Proofs.Ytbbdmgomcpmhpaa

namespace Go.Proofs.Ytbbdmgomcpmhpaa
open Go Go.RowKit
theorem neq6 {o1 d1 a1 b1 c1 n1 op d a b c n : Int} (h : (⟨o1, d1, a1, b1, c1, n1⟩ : St) ≠ ⟨op, d, a, b, c, n⟩) (w : World) : (binOp .neq 56 (.agg #[.int .i64 o1, .int .i64 d1, .int .i64 a1, .int .i64 b1, .int .i64 c1, .int .i64 n1]) (.agg #[.int .i64 op, .int .i64 d, .int .i64 a, .int .i64 b, .int .i64 c, .int .i64 n])).run Try.prog w = .ok (.bool true) w := by
  go_simp
  intro h1 h2 h3 h4 h5 h6
  exact h (by rw [h1, h2, h3, h4, h5, h6])
set_option maxRecDepth 100000 in
set_option maxHeartbeats 400000 in
theorem impl_new_regs (op d a b c n : Int) (t : Ty) (h : tyOf op d a b c n = some t) (hback : t.back = ⟨op, d, a, b, c, n⟩) (hr : ¬ t.regs) (w : World) :
    Calls Try.prog 79 #[.agg #[.int .i64 op, .int .i64 d, .int .i64 a, .int .i64 b, .int .i64 c, .int .i64 n]] w fun e w' => e = .returned (.tuple #[.nilIface, .bool false]) ∧ Below w.heap.size w w' := by
  have c1 := impl_usedFields op d a b c n
  have c2 := impl_stmt t
  have c3 := impl_registersOk t
  have c4 := impl_numbersOk t
  have hm := ty_name t
  have hf := ty_call t
  rw [h] at c1
  rw [decide_eq_false hr] at c3
  clear c4
  rw [hback] at c2
  simp only [usedV, ty_v, St.v] at *
  generalize t.ty = T at *
  generalize t.g = G at *
  generalize t.fn = F at *
  clear h hback hr
  go_enter Try.func79, Try.ntmps79
  go_wp2_with fail
  refine (c1 _).mono ?_
  rintro e w1 ⟨rfl, hb⟩
  have hblk := heap_below (heap_alloc_new w (.cells #[.int .i64 op, .int .i64 d, .int .i64 a, .int .i64 b, .int .i64 c, .int .i64 n] 56)) hb
  have b0 : Below w.heap.size w w1 := (below_alloc _ _).trans (hb.mono (by simp))
  have k0 := (blk (i := 0) hblk rfl).1
  have k1 := (blk (i := 1) hblk rfl).1
  have k2 := (blk (i := 2) hblk rfl).1
  have k3 := (blk (i := 3) hblk rfl).1
  have k4 := (blk (i := 4) hblk rfl).1
  have k5 := (blk (i := 5) hblk rfl).1
  clear hblk hb
  generalize hg : w.heap.size = g at *
  go_wp2_with fail
  have b1 := b0.drew
  first
    | (go_region_with (first
        | (go_at_call 95; (with_reducible refine (keep_six c3 (g := g) (op := op) (d := d) (a := a) (b := b) (c := c) (n := n) (w := w) ?_ ?_ ?_ ?_ ?_ ?_ ?_).mono ?_); assumption; assumption; assumption; assumption; assumption; assumption; assumption; rintro e w' ⟨rfl, q0, q1, q2, q3, q4, q5, q6⟩)
        | ((with_reducible refine (keep_six c2 (g := g) (op := op) (d := d) (a := a) (b := b) (c := c) (n := n) (w := w) ?_ ?_ ?_ ?_ ?_ ?_ ?_).mono ?_); assumption; assumption; assumption; assumption; assumption; assumption; assumption; rintro e w' ⟨rfl, q0, q1, q2, q3, q4, q5, q6⟩)))
    | fail
  all_goals
    go_wp2_with fail
    go_ret2
    exact ⟨rfl, by first | assumption | (rw [hg]; assumption)⟩
set_option maxRecDepth 100000 in
set_option maxHeartbeats 400000 in
theorem impl_new_back (op d a b c n : Int) (t : Ty) (h : tyOf op d a b c n = some t) (hback : t.back ≠ ⟨op, d, a, b, c, n⟩) (w : World) :
    Calls Try.prog 79 #[.agg #[.int .i64 op, .int .i64 d, .int .i64 a, .int .i64 b, .int .i64 c, .int .i64 n]] w fun e w' => e = .returned (.tuple #[.nilIface, .bool false]) ∧ Below w.heap.size w w' := by
  have c1 := impl_usedFields op d a b c n
  have c2 := impl_stmt t
  have c3 := impl_registersOk t
  have c4 := impl_numbersOk t
  have hm := ty_name t
  have hf := ty_call t
  rw [h] at c1
  clear c3 c4
  simp only [usedV, ty_v, St.v] at *
  generalize t.ty = T at *
  generalize t.g = G at *
  generalize t.fn = F at *
  generalize t.back = z at *
  obtain ⟨o1, d1, a1, b1, c1', n1⟩ := z
  have hq := neq6 hback
  clear h
  go_enter Try.func79, Try.ntmps79
  go_wp2_with fail
  refine (c1 _).mono ?_
  rintro e w1 ⟨rfl, hb⟩
  have hblk := heap_below (heap_alloc_new w (.cells #[.int .i64 op, .int .i64 d, .int .i64 a, .int .i64 b, .int .i64 c, .int .i64 n] 56)) hb
  have b0 : Below w.heap.size w w1 := (below_alloc _ _).trans (hb.mono (by simp))
  have k0 := (blk (i := 0) hblk rfl).1
  have k1 := (blk (i := 1) hblk rfl).1
  have k2 := (blk (i := 2) hblk rfl).1
  have k3 := (blk (i := 3) hblk rfl).1
  have k4 := (blk (i := 4) hblk rfl).1
  have k5 := (blk (i := 5) hblk rfl).1
  clear hblk hb
  generalize hg : w.heap.size = g at *
  go_wp2_with fail
  have b1 := b0.drew
  first
    | (go_region_with (first
        | ((with_reducible refine (keep_six c2 (g := g) (op := op) (d := d) (a := a) (b := b) (c := c) (n := n) (w := w) ?_ ?_ ?_ ?_ ?_ ?_ ?_).mono ?_); assumption; assumption; assumption; assumption; assumption; assumption; assumption; rintro e w' ⟨rfl, q0, q1, q2, q3, q4, q5, q6⟩)))
    | fail
  all_goals
    go_wp2_with fail
    go_ret2
    exact ⟨rfl, by first | assumption | (rw [hg]; assumption)⟩
/-- A valid statement is the typed one, written back. -/
theorem ok_of {op d a b c n : Int} : okI op d a b c n ↔ ∃ t, tyOf op d a b c n = some t ∧ t.back = ⟨op, d, a, b, c, n⟩ ∧ t.regs ∧ t.nums := by
  rcases @tyOf_cases op d a b c n with ⟨h, e⟩ | ⟨h, e⟩ | ⟨h, e⟩ | ⟨h, e⟩ | ⟨h, e⟩ | ⟨h, e⟩ | ⟨h, e⟩ | ⟨h, e⟩ <;> rw [e] <;>
    simp [okI, Ty.back, Ty.regs, Ty.nums, Ty.sets, Ty.dst, Ty.reads, allReg, isReg] <;> omega
end Go.Proofs.Ytbbdmgomcpmhpaa
