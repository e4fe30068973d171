/- The model's text of a statement. -/
import Derived.Test.YtjclhlicginekaaGreatDoorProg
import Derived.Test.YtjclhlicginekaaGreatDoorStmtE
import Derived.Test.YtjclhlicginekaaGreatDoorStmtK
import Derived.Test.YtjclhlicginekaaGreatDoorNum
import Derived.Test.YtjclhlicginekaaGreatDoorPost
import Derived.Test.YtjclhlicginekaaGreatDoorBlk
import Derived.Test.YtjclhlicginekaaGreatDoorSrcM
import Derived.Deep.RegionHeld3
namespace Go.Proofs.YtjclhlicginekaaGreatDoor
open Go Go.RowKit
set_option maxRecDepth 100000 in
set_option maxHeartbeats 4000000 in
theorem spec_Word (u : Nat) (h1 : 1 ≤ u) (h2 : u ≤ 13) (w : World) :
    Calls Tryz.prog 44 #[.int .i64 (u : Int)] w fun e w' => e = .returned (.string ⟨(wordL u).toArray⟩) ∧ Below w.heap.size w w' := by
  have hc : u = 1 ∨ u = 2 ∨ u = 3 ∨ u = 4 ∨ u = 5 ∨ u = 6 ∨ u = 7 ∨ u = 8 ∨ u = 9 ∨ u = 10 ∨ u = 11 ∨ u = 12 ∨ u = 13 := by omega
  rcases hc with rfl | rfl | rfl | rfl | rfl | rfl | rfl | rfl | rfl | rfl | rfl | rfl | rfl
  all_goals
    go_enter Tryz.func44, Tryz.ntmps44
    go_wp2_with fail
    go_ret
    exact ⟨rfl, below_alloc _ _⟩
theorem spec_Reg (x : Int) (h0 : 0 ≤ x) (h1 : x ≤ 15) (w : World) :
    Calls Tryz.prog 63 #[.int .i64 x] w fun e w' => e = .returned (.string (({ data := #[32, 114] } : ByteArray) ++ ⟨(Lib.itoa x).toArray⟩)) ∧ Below w.heap.size w w' := by
  have hl : (⟨(Lib.itoa x).toArray⟩ : ByteArray).size ≤ 2 := by show (Lib.itoa x).toArray.size ≤ 2; simpa using itoa_len h0 h1
  have cf := spec_FormatInt_any x ⟨by omega, by omega⟩ w
  generalize (⟨(Lib.itoa x).toArray⟩ : ByteArray) = t at *
  go_enter Tryz.func63, Tryz.ntmps63
  go_wp2_with fail
  refine cf.mono ?_
  rintro e w1 ⟨rfl, hb⟩
  clear cf
  go_wp2_with fail
  go_ret
  exact ⟨rfl, hb⟩
set_option maxRecDepth 100000 in
set_option maxHeartbeats 1000000 in
theorem spec_fmt_const (d a b c n : Int) (wd rd nn : ByteArray) (w : World) 
    (cw : ∀ w, Calls Tryz.prog 44 #[.int .i64 1] w fun e w' => e = .returned (.string wd) ∧ Below w.heap.size w w')
    (crd : ∀ w, Calls Tryz.prog 63 #[.int .i64 d] w fun e w' => e = .returned (.string rd) ∧ Below w.heap.size w w')
    (cnn : ∀ w, Calls Tryz.prog 64 #[.int .i64 n] w fun e w' => e = .returned (.string nn) ∧ Below w.heap.size w w')
    (lw : wd.size ≤ 5) (lrd : rd.size ≤ 4) (lnn : nn.size ≤ 4)
    (ok : ∀ w, Calls Tryz.prog 46 #[.agg #[.int .i64 1, .int .i64 d, .int .i64 a, .int .i64 b, .int .i64 c, .int .i64 n]] w fun e w' => e = .returned (.bool true) ∧ Below w.heap.size w w') :
    Calls Tryz.prog 45 #[.agg #[.int .i64 1, .int .i64 d, .int .i64 a, .int .i64 b, .int .i64 c, .int .i64 n]] w fun e w' => e = .returned (.tuple #[.string (wd ++ rd ++ ({ data := #[32] } : ByteArray) ++ nn), .bool true]) ∧ Below w.heap.size w w' := by
  have hblk0 := heap_alloc_new w (.cells #[.int .i64 1, .int .i64 d, .int .i64 a, .int .i64 b, .int .i64 c, .int .i64 n] 34)
  go_enter Tryz.func45, Tryz.ntmps45
  go_wp2_with fail
  refine (ok _).mono ?_
  rintro e w1 ⟨rfl, hb⟩
  have hblk1 := heap_below hblk0 hb
  have b1 : Below w.heap.size w w1 := (below_alloc _ _).trans (hb.mono (by simp))
  have j0 := (blk (i := 0) hblk1 rfl).1
  clear hb hblk0 ok
  go_wp2_with fail
  refine (cw _).mono ?_
  rintro e w2 ⟨rfl, hb⟩
  have hblk := heap_below hblk1 hb
  have b0 : Below w.heap.size w w2 := b1.trans (hb.mono b1.size)
  clear hb hblk1 b1 j0 cw
  have k0 := (blk (i := 0) hblk rfl).1
  have k1 := (blk (i := 1) hblk rfl).1
  have k2 := (blk (i := 2) hblk rfl).1
  have k3 := (blk (i := 3) hblk rfl).1
  have k4 := (blk (i := 4) hblk rfl).1
  have k5 := (blk (i := 5) hblk rfl).1
  clear hblk
  generalize hg : w.heap.size = g at *
  have z0 : ¬ 9223372036854775807 < wd.size + rd.size := by omega
  have y0 : ¬ 9223372036854775807 < (wd).size + (rd).size := by omega
  have z1 : ¬ 9223372036854775807 < wd.size + rd.size + 1 := by omega
  have y1 : ¬ 9223372036854775807 < (wd ++ rd).size + (({ data := #[32] } : ByteArray)).size := by have e0 : (wd ++ rd).size = (wd).size + (rd).size := ByteArray.size_append; have c1 : (({ data := #[32] } : ByteArray)).size = 1 := rfl; omega
  have z2 : ¬ 9223372036854775807 < wd.size + rd.size + 1 + nn.size := by omega
  have y2 : ¬ 9223372036854775807 < (wd ++ rd ++ ({ data := #[32] } : ByteArray)).size + (nn).size := by have e0 : (wd ++ rd).size = (wd).size + (rd).size := ByteArray.size_append; have c1 : (({ data := #[32] } : ByteArray)).size = 1 := rfl; have e1 : (wd ++ rd ++ ({ data := #[32] } : ByteArray)).size = (wd ++ rd).size + (({ data := #[32] } : ByteArray)).size := ByteArray.size_append; omega
  go_wp2_with fail
  have b1 := b0.drew
  go_region_held3 (fun w' => w'.cell? ⟨g, 0, none⟩ = some (.int .i64 1) ∧ w'.cell? ⟨g, 1, none⟩ = some (.int .i64 d) ∧ w'.cell? ⟨g, 2, none⟩ = some (.int .i64 a) ∧ w'.cell? ⟨g, 3, none⟩ = some (.int .i64 b) ∧ w'.cell? ⟨g, 4, none⟩ = some (.int .i64 c) ∧ w'.cell? ⟨g, 5, none⟩ = some (.int .i64 n) ∧ Below g w w') (refine ⟨?_, ?_, ?_, ?_, ?_, ?_, ?_⟩ <;> first | assumption | (simp [*]; done)) (first
    | (go_at_call 63; (with_reducible refine (keep_six crd (g := g) (op := 1) (d := d) (a := a) (b := b) (c := c) (n := n) (w := w) ?_ ?_ ?_ ?_ ?_ ?_ ?_).mono ?_); assumption; assumption; assumption; assumption; assumption; assumption; assumption; rintro e w' ⟨rfl, q0, q1, q2, q3, q4, q5, q6⟩)
    | (go_at_call 64; (with_reducible refine (keep_six cnn (g := g) (op := 1) (d := d) (a := a) (b := b) (c := c) (n := n) (w := w) ?_ ?_ ?_ ?_ ?_ ?_ ?_).mono ?_); assumption; assumption; assumption; assumption; assumption; assumption; assumption; rintro e w' ⟨rfl, q0, q1, q2, q3, q4, q5, q6⟩))
  all_goals
    go_wp2_with fail
    go_ret2
    exact ⟨rfl, by first | assumption | (rw [hg]; assumption)⟩
set_option maxRecDepth 100000 in
set_option maxHeartbeats 1000000 in
theorem spec_fmt_input (d a b c n : Int) (wd na rd nn : ByteArray) (w : World) 
    (cw : ∀ w, Calls Tryz.prog 44 #[.int .i64 2] w fun e w' => e = .returned (.string wd) ∧ Below w.heap.size w w')
    (cna : ∀ w, Calls Tryz.prog 64 #[.int .i64 a] w fun e w' => e = .returned (.string na) ∧ Below w.heap.size w w')
    (crd : ∀ w, Calls Tryz.prog 63 #[.int .i64 d] w fun e w' => e = .returned (.string rd) ∧ Below w.heap.size w w')
    (cnn : ∀ w, Calls Tryz.prog 64 #[.int .i64 n] w fun e w' => e = .returned (.string nn) ∧ Below w.heap.size w w')
    (lw : wd.size ≤ 5) (lna : na.size ≤ 4) (lrd : rd.size ≤ 4) (lnn : nn.size ≤ 4)
    (ok : ∀ w, Calls Tryz.prog 46 #[.agg #[.int .i64 2, .int .i64 d, .int .i64 a, .int .i64 b, .int .i64 c, .int .i64 n]] w fun e w' => e = .returned (.bool true) ∧ Below w.heap.size w w') :
    Calls Tryz.prog 45 #[.agg #[.int .i64 2, .int .i64 d, .int .i64 a, .int .i64 b, .int .i64 c, .int .i64 n]] w fun e w' => e = .returned (.tuple #[.string (wd ++ rd ++ ({ data := #[32, 112] } : ByteArray) ++ na ++ ({ data := #[32] } : ByteArray) ++ nn), .bool true]) ∧ Below w.heap.size w w' := by
  have hblk0 := heap_alloc_new w (.cells #[.int .i64 2, .int .i64 d, .int .i64 a, .int .i64 b, .int .i64 c, .int .i64 n] 34)
  go_enter Tryz.func45, Tryz.ntmps45
  go_wp2_with fail
  refine (ok _).mono ?_
  rintro e w1 ⟨rfl, hb⟩
  have hblk1 := heap_below hblk0 hb
  have b1 : Below w.heap.size w w1 := (below_alloc _ _).trans (hb.mono (by simp))
  have j0 := (blk (i := 0) hblk1 rfl).1
  clear hb hblk0 ok
  go_wp2_with fail
  refine (cw _).mono ?_
  rintro e w2 ⟨rfl, hb⟩
  have hblk := heap_below hblk1 hb
  have b0 : Below w.heap.size w w2 := b1.trans (hb.mono b1.size)
  clear hb hblk1 b1 j0 cw
  have k0 := (blk (i := 0) hblk rfl).1
  have k1 := (blk (i := 1) hblk rfl).1
  have k2 := (blk (i := 2) hblk rfl).1
  have k3 := (blk (i := 3) hblk rfl).1
  have k4 := (blk (i := 4) hblk rfl).1
  have k5 := (blk (i := 5) hblk rfl).1
  clear hblk
  generalize hg : w.heap.size = g at *
  have z0 : ¬ 9223372036854775807 < wd.size + rd.size := by omega
  have y0 : ¬ 9223372036854775807 < (wd).size + (rd).size := by omega
  have z1 : ¬ 9223372036854775807 < wd.size + rd.size + 2 := by omega
  have y1 : ¬ 9223372036854775807 < (wd ++ rd).size + (({ data := #[32, 112] } : ByteArray)).size := by have e0 : (wd ++ rd).size = (wd).size + (rd).size := ByteArray.size_append; have c1 : (({ data := #[32, 112] } : ByteArray)).size = 2 := rfl; omega
  have z2 : ¬ 9223372036854775807 < wd.size + rd.size + 2 + na.size := by omega
  have y2 : ¬ 9223372036854775807 < (wd ++ rd ++ ({ data := #[32, 112] } : ByteArray)).size + (na).size := by have e0 : (wd ++ rd).size = (wd).size + (rd).size := ByteArray.size_append; have c1 : (({ data := #[32, 112] } : ByteArray)).size = 2 := rfl; have e1 : (wd ++ rd ++ ({ data := #[32, 112] } : ByteArray)).size = (wd ++ rd).size + (({ data := #[32, 112] } : ByteArray)).size := ByteArray.size_append; omega
  have z3 : ¬ 9223372036854775807 < wd.size + rd.size + 2 + na.size + 1 := by omega
  have y3 : ¬ 9223372036854775807 < (wd ++ rd ++ ({ data := #[32, 112] } : ByteArray) ++ na).size + (({ data := #[32] } : ByteArray)).size := by have e0 : (wd ++ rd).size = (wd).size + (rd).size := ByteArray.size_append; have c1 : (({ data := #[32, 112] } : ByteArray)).size = 2 := rfl; have e1 : (wd ++ rd ++ ({ data := #[32, 112] } : ByteArray)).size = (wd ++ rd).size + (({ data := #[32, 112] } : ByteArray)).size := ByteArray.size_append; have e2 : (wd ++ rd ++ ({ data := #[32, 112] } : ByteArray) ++ na).size = (wd ++ rd ++ ({ data := #[32, 112] } : ByteArray)).size + (na).size := ByteArray.size_append; have c3 : (({ data := #[32] } : ByteArray)).size = 1 := rfl; omega
  have z4 : ¬ 9223372036854775807 < wd.size + rd.size + 2 + na.size + 1 + nn.size := by omega
  have y4 : ¬ 9223372036854775807 < (wd ++ rd ++ ({ data := #[32, 112] } : ByteArray) ++ na ++ ({ data := #[32] } : ByteArray)).size + (nn).size := by have e0 : (wd ++ rd).size = (wd).size + (rd).size := ByteArray.size_append; have c1 : (({ data := #[32, 112] } : ByteArray)).size = 2 := rfl; have e1 : (wd ++ rd ++ ({ data := #[32, 112] } : ByteArray)).size = (wd ++ rd).size + (({ data := #[32, 112] } : ByteArray)).size := ByteArray.size_append; have e2 : (wd ++ rd ++ ({ data := #[32, 112] } : ByteArray) ++ na).size = (wd ++ rd ++ ({ data := #[32, 112] } : ByteArray)).size + (na).size := ByteArray.size_append; have c3 : (({ data := #[32] } : ByteArray)).size = 1 := rfl; have e3 : (wd ++ rd ++ ({ data := #[32, 112] } : ByteArray) ++ na ++ ({ data := #[32] } : ByteArray)).size = (wd ++ rd ++ ({ data := #[32, 112] } : ByteArray) ++ na).size + (({ data := #[32] } : ByteArray)).size := ByteArray.size_append; omega
  go_wp2_with fail
  have b1 := b0.drew
  go_region_held3 (fun w' => w'.cell? ⟨g, 0, none⟩ = some (.int .i64 2) ∧ w'.cell? ⟨g, 1, none⟩ = some (.int .i64 d) ∧ w'.cell? ⟨g, 2, none⟩ = some (.int .i64 a) ∧ w'.cell? ⟨g, 3, none⟩ = some (.int .i64 b) ∧ w'.cell? ⟨g, 4, none⟩ = some (.int .i64 c) ∧ w'.cell? ⟨g, 5, none⟩ = some (.int .i64 n) ∧ Below g w w') (refine ⟨?_, ?_, ?_, ?_, ?_, ?_, ?_⟩ <;> first | assumption | (simp [*]; done)) (first
    | (go_at_call 64; (with_reducible refine (keep_six cna (g := g) (op := 2) (d := d) (a := a) (b := b) (c := c) (n := n) (w := w) ?_ ?_ ?_ ?_ ?_ ?_ ?_).mono ?_); assumption; assumption; assumption; assumption; assumption; assumption; assumption; rintro e w' ⟨rfl, q0, q1, q2, q3, q4, q5, q6⟩)
    | (go_at_call 63; (with_reducible refine (keep_six crd (g := g) (op := 2) (d := d) (a := a) (b := b) (c := c) (n := n) (w := w) ?_ ?_ ?_ ?_ ?_ ?_ ?_).mono ?_); assumption; assumption; assumption; assumption; assumption; assumption; assumption; rintro e w' ⟨rfl, q0, q1, q2, q3, q4, q5, q6⟩)
    | (go_at_call 64; (with_reducible refine (keep_six cnn (g := g) (op := 2) (d := d) (a := a) (b := b) (c := c) (n := n) (w := w) ?_ ?_ ?_ ?_ ?_ ?_ ?_).mono ?_); assumption; assumption; assumption; assumption; assumption; assumption; assumption; rintro e w' ⟨rfl, q0, q1, q2, q3, q4, q5, q6⟩))
  all_goals
    go_wp2_with fail
    go_ret2
    exact ⟨rfl, by first | assumption | (rw [hg]; assumption)⟩
set_option maxRecDepth 100000 in
set_option maxHeartbeats 1000000 in
theorem spec_fmt_mux (d a b c n : Int) (wd ra rb rc rd : ByteArray) (w : World) 
    (cw : ∀ w, Calls Tryz.prog 44 #[.int .i64 10] w fun e w' => e = .returned (.string wd) ∧ Below w.heap.size w w')
    (cra : ∀ w, Calls Tryz.prog 63 #[.int .i64 a] w fun e w' => e = .returned (.string ra) ∧ Below w.heap.size w w')
    (crb : ∀ w, Calls Tryz.prog 63 #[.int .i64 b] w fun e w' => e = .returned (.string rb) ∧ Below w.heap.size w w')
    (crc : ∀ w, Calls Tryz.prog 63 #[.int .i64 c] w fun e w' => e = .returned (.string rc) ∧ Below w.heap.size w w')
    (crd : ∀ w, Calls Tryz.prog 63 #[.int .i64 d] w fun e w' => e = .returned (.string rd) ∧ Below w.heap.size w w')
    (lw : wd.size ≤ 5) (lra : ra.size ≤ 4) (lrb : rb.size ≤ 4) (lrc : rc.size ≤ 4) (lrd : rd.size ≤ 4)
    (ok : ∀ w, Calls Tryz.prog 46 #[.agg #[.int .i64 10, .int .i64 d, .int .i64 a, .int .i64 b, .int .i64 c, .int .i64 n]] w fun e w' => e = .returned (.bool true) ∧ Below w.heap.size w w') :
    Calls Tryz.prog 45 #[.agg #[.int .i64 10, .int .i64 d, .int .i64 a, .int .i64 b, .int .i64 c, .int .i64 n]] w fun e w' => e = .returned (.tuple #[.string (wd ++ rd ++ ra ++ rb ++ rc), .bool true]) ∧ Below w.heap.size w w' := by
  have hblk0 := heap_alloc_new w (.cells #[.int .i64 10, .int .i64 d, .int .i64 a, .int .i64 b, .int .i64 c, .int .i64 n] 34)
  go_enter Tryz.func45, Tryz.ntmps45
  go_wp2_with fail
  refine (ok _).mono ?_
  rintro e w1 ⟨rfl, hb⟩
  have hblk1 := heap_below hblk0 hb
  have b1 : Below w.heap.size w w1 := (below_alloc _ _).trans (hb.mono (by simp))
  have j0 := (blk (i := 0) hblk1 rfl).1
  clear hb hblk0 ok
  go_wp2_with fail
  refine (cw _).mono ?_
  rintro e w2 ⟨rfl, hb⟩
  have hblk := heap_below hblk1 hb
  have b0 : Below w.heap.size w w2 := b1.trans (hb.mono b1.size)
  clear hb hblk1 b1 j0 cw
  have k0 := (blk (i := 0) hblk rfl).1
  have k1 := (blk (i := 1) hblk rfl).1
  have k2 := (blk (i := 2) hblk rfl).1
  have k3 := (blk (i := 3) hblk rfl).1
  have k4 := (blk (i := 4) hblk rfl).1
  have k5 := (blk (i := 5) hblk rfl).1
  clear hblk
  generalize hg : w.heap.size = g at *
  have z0 : ¬ 9223372036854775807 < wd.size + rd.size := by omega
  have y0 : ¬ 9223372036854775807 < (wd).size + (rd).size := by omega
  have z1 : ¬ 9223372036854775807 < wd.size + rd.size + ra.size := by omega
  have y1 : ¬ 9223372036854775807 < (wd ++ rd).size + (ra).size := by have e0 : (wd ++ rd).size = (wd).size + (rd).size := ByteArray.size_append; omega
  have z2 : ¬ 9223372036854775807 < wd.size + rd.size + ra.size + rb.size := by omega
  have y2 : ¬ 9223372036854775807 < (wd ++ rd ++ ra).size + (rb).size := by have e0 : (wd ++ rd).size = (wd).size + (rd).size := ByteArray.size_append; have e1 : (wd ++ rd ++ ra).size = (wd ++ rd).size + (ra).size := ByteArray.size_append; omega
  have z3 : ¬ 9223372036854775807 < wd.size + rd.size + ra.size + rb.size + rc.size := by omega
  have y3 : ¬ 9223372036854775807 < (wd ++ rd ++ ra ++ rb).size + (rc).size := by have e0 : (wd ++ rd).size = (wd).size + (rd).size := ByteArray.size_append; have e1 : (wd ++ rd ++ ra).size = (wd ++ rd).size + (ra).size := ByteArray.size_append; have e2 : (wd ++ rd ++ ra ++ rb).size = (wd ++ rd ++ ra).size + (rb).size := ByteArray.size_append; omega
  go_wp2_with fail
  have b1 := b0.drew
  go_region_held3 (fun w' => w'.cell? ⟨g, 0, none⟩ = some (.int .i64 10) ∧ w'.cell? ⟨g, 1, none⟩ = some (.int .i64 d) ∧ w'.cell? ⟨g, 2, none⟩ = some (.int .i64 a) ∧ w'.cell? ⟨g, 3, none⟩ = some (.int .i64 b) ∧ w'.cell? ⟨g, 4, none⟩ = some (.int .i64 c) ∧ w'.cell? ⟨g, 5, none⟩ = some (.int .i64 n) ∧ Below g w w') (refine ⟨?_, ?_, ?_, ?_, ?_, ?_, ?_⟩ <;> first | assumption | (simp [*]; done)) (first
    | (go_at_call 63; (with_reducible refine (keep_six cra (g := g) (op := 10) (d := d) (a := a) (b := b) (c := c) (n := n) (w := w) ?_ ?_ ?_ ?_ ?_ ?_ ?_).mono ?_); assumption; assumption; assumption; assumption; assumption; assumption; assumption; rintro e w' ⟨rfl, q0, q1, q2, q3, q4, q5, q6⟩)
    | (go_at_call 63; (with_reducible refine (keep_six crb (g := g) (op := 10) (d := d) (a := a) (b := b) (c := c) (n := n) (w := w) ?_ ?_ ?_ ?_ ?_ ?_ ?_).mono ?_); assumption; assumption; assumption; assumption; assumption; assumption; assumption; rintro e w' ⟨rfl, q0, q1, q2, q3, q4, q5, q6⟩)
    | (go_at_call 63; (with_reducible refine (keep_six crc (g := g) (op := 10) (d := d) (a := a) (b := b) (c := c) (n := n) (w := w) ?_ ?_ ?_ ?_ ?_ ?_ ?_).mono ?_); assumption; assumption; assumption; assumption; assumption; assumption; assumption; rintro e w' ⟨rfl, q0, q1, q2, q3, q4, q5, q6⟩)
    | (go_at_call 63; (with_reducible refine (keep_six crd (g := g) (op := 10) (d := d) (a := a) (b := b) (c := c) (n := n) (w := w) ?_ ?_ ?_ ?_ ?_ ?_ ?_).mono ?_); assumption; assumption; assumption; assumption; assumption; assumption; assumption; rintro e w' ⟨rfl, q0, q1, q2, q3, q4, q5, q6⟩))
  all_goals
    go_wp2_with fail
    go_ret2
    exact ⟨rfl, by first | assumption | (rw [hg]; assumption)⟩
set_option maxRecDepth 100000 in
set_option maxHeartbeats 1000000 in
theorem spec_fmt_bin (op : Int) (d a b c n : Int) (wd ra rb rd : ByteArray) (w : World) (h1 : 3 ≤ op) (h2 : op ≤ 9)
    (cw : ∀ w, Calls Tryz.prog 44 #[.int .i64 op] w fun e w' => e = .returned (.string wd) ∧ Below w.heap.size w w')
    (cra : ∀ w, Calls Tryz.prog 63 #[.int .i64 a] w fun e w' => e = .returned (.string ra) ∧ Below w.heap.size w w')
    (crb : ∀ w, Calls Tryz.prog 63 #[.int .i64 b] w fun e w' => e = .returned (.string rb) ∧ Below w.heap.size w w')
    (crd : ∀ w, Calls Tryz.prog 63 #[.int .i64 d] w fun e w' => e = .returned (.string rd) ∧ Below w.heap.size w w')
    (lw : wd.size ≤ 5) (lra : ra.size ≤ 4) (lrb : rb.size ≤ 4) (lrd : rd.size ≤ 4)
    (ok : ∀ w, Calls Tryz.prog 46 #[.agg #[.int .i64 op, .int .i64 d, .int .i64 a, .int .i64 b, .int .i64 c, .int .i64 n]] w fun e w' => e = .returned (.bool true) ∧ Below w.heap.size w w') :
    Calls Tryz.prog 45 #[.agg #[.int .i64 op, .int .i64 d, .int .i64 a, .int .i64 b, .int .i64 c, .int .i64 n]] w fun e w' => e = .returned (.tuple #[.string (wd ++ rd ++ ra ++ rb), .bool true]) ∧ Below w.heap.size w w' := by
  have hblk0 := heap_alloc_new w (.cells #[.int .i64 op, .int .i64 d, .int .i64 a, .int .i64 b, .int .i64 c, .int .i64 n] 34)
  go_enter Tryz.func45, Tryz.ntmps45
  go_wp2_with fail
  refine (ok _).mono ?_
  rintro e w1 ⟨rfl, hb⟩
  have hblk1 := heap_below hblk0 hb
  have b1 : Below w.heap.size w w1 := (below_alloc _ _).trans (hb.mono (by simp))
  have j0 := (blk (i := 0) hblk1 rfl).1
  clear hb hblk0 ok
  go_wp2_with fail
  refine (cw _).mono ?_
  rintro e w2 ⟨rfl, hb⟩
  have hblk := heap_below hblk1 hb
  have b0 : Below w.heap.size w w2 := b1.trans (hb.mono b1.size)
  clear hb hblk1 b1 j0 cw
  have k0 := (blk (i := 0) hblk rfl).1
  have k1 := (blk (i := 1) hblk rfl).1
  have k2 := (blk (i := 2) hblk rfl).1
  have k3 := (blk (i := 3) hblk rfl).1
  have k4 := (blk (i := 4) hblk rfl).1
  have k5 := (blk (i := 5) hblk rfl).1
  clear hblk
  generalize hg : w.heap.size = g at *
  have z0 : ¬ 9223372036854775807 < wd.size + rd.size := by omega
  have y0 : ¬ 9223372036854775807 < (wd).size + (rd).size := by omega
  have z1 : ¬ 9223372036854775807 < wd.size + rd.size + ra.size := by omega
  have y1 : ¬ 9223372036854775807 < (wd ++ rd).size + (ra).size := by have e0 : (wd ++ rd).size = (wd).size + (rd).size := ByteArray.size_append; omega
  have z2 : ¬ 9223372036854775807 < wd.size + rd.size + ra.size + rb.size := by omega
  have y2 : ¬ 9223372036854775807 < (wd ++ rd ++ ra).size + (rb).size := by have e0 : (wd ++ rd).size = (wd).size + (rd).size := ByteArray.size_append; have e1 : (wd ++ rd ++ ra).size = (wd ++ rd).size + (ra).size := ByteArray.size_append; omega
  go_wp2_with fail
  have b1 := b0.drew
  go_region_held3 (fun w' => w'.cell? ⟨g, 0, none⟩ = some (.int .i64 op) ∧ w'.cell? ⟨g, 1, none⟩ = some (.int .i64 d) ∧ w'.cell? ⟨g, 2, none⟩ = some (.int .i64 a) ∧ w'.cell? ⟨g, 3, none⟩ = some (.int .i64 b) ∧ w'.cell? ⟨g, 4, none⟩ = some (.int .i64 c) ∧ w'.cell? ⟨g, 5, none⟩ = some (.int .i64 n) ∧ Below g w w') (refine ⟨?_, ?_, ?_, ?_, ?_, ?_, ?_⟩ <;> first | assumption | (simp [*]; done)) (first
    | (go_at_call 63; (with_reducible refine (keep_six cra (g := g) (op := op) (d := d) (a := a) (b := b) (c := c) (n := n) (w := w) ?_ ?_ ?_ ?_ ?_ ?_ ?_).mono ?_); assumption; assumption; assumption; assumption; assumption; assumption; assumption; rintro e w' ⟨rfl, q0, q1, q2, q3, q4, q5, q6⟩)
    | (go_at_call 63; (with_reducible refine (keep_six crb (g := g) (op := op) (d := d) (a := a) (b := b) (c := c) (n := n) (w := w) ?_ ?_ ?_ ?_ ?_ ?_ ?_).mono ?_); assumption; assumption; assumption; assumption; assumption; assumption; assumption; rintro e w' ⟨rfl, q0, q1, q2, q3, q4, q5, q6⟩)
    | (go_at_call 63; (with_reducible refine (keep_six crd (g := g) (op := op) (d := d) (a := a) (b := b) (c := c) (n := n) (w := w) ?_ ?_ ?_ ?_ ?_ ?_ ?_).mono ?_); assumption; assumption; assumption; assumption; assumption; assumption; assumption; rintro e w' ⟨rfl, q0, q1, q2, q3, q4, q5, q6⟩))
  all_goals
    go_wp2_with fail
    go_ret2
    exact ⟨rfl, by first | assumption | (rw [hg]; assumption)⟩
set_option maxRecDepth 100000 in
set_option maxHeartbeats 1000000 in
theorem spec_fmt_out (d a b c n : Int) (wd ra : ByteArray) (w : World) 
    (cw : ∀ w, Calls Tryz.prog 44 #[.int .i64 11] w fun e w' => e = .returned (.string wd) ∧ Below w.heap.size w w')
    (cra : ∀ w, Calls Tryz.prog 63 #[.int .i64 a] w fun e w' => e = .returned (.string ra) ∧ Below w.heap.size w w')
    (lw : wd.size ≤ 5) (lra : ra.size ≤ 4)
    (ok : ∀ w, Calls Tryz.prog 46 #[.agg #[.int .i64 11, .int .i64 d, .int .i64 a, .int .i64 b, .int .i64 c, .int .i64 n]] w fun e w' => e = .returned (.bool true) ∧ Below w.heap.size w w') :
    Calls Tryz.prog 45 #[.agg #[.int .i64 11, .int .i64 d, .int .i64 a, .int .i64 b, .int .i64 c, .int .i64 n]] w fun e w' => e = .returned (.tuple #[.string (wd ++ ra), .bool true]) ∧ Below w.heap.size w w' := by
  have hblk0 := heap_alloc_new w (.cells #[.int .i64 11, .int .i64 d, .int .i64 a, .int .i64 b, .int .i64 c, .int .i64 n] 34)
  go_enter Tryz.func45, Tryz.ntmps45
  go_wp2_with fail
  refine (ok _).mono ?_
  rintro e w1 ⟨rfl, hb⟩
  have hblk1 := heap_below hblk0 hb
  have b1 : Below w.heap.size w w1 := (below_alloc _ _).trans (hb.mono (by simp))
  have j0 := (blk (i := 0) hblk1 rfl).1
  clear hb hblk0 ok
  go_wp2_with fail
  refine (cw _).mono ?_
  rintro e w2 ⟨rfl, hb⟩
  have hblk := heap_below hblk1 hb
  have b0 : Below w.heap.size w w2 := b1.trans (hb.mono b1.size)
  clear hb hblk1 b1 j0 cw
  have k0 := (blk (i := 0) hblk rfl).1
  have k1 := (blk (i := 1) hblk rfl).1
  have k2 := (blk (i := 2) hblk rfl).1
  have k3 := (blk (i := 3) hblk rfl).1
  have k4 := (blk (i := 4) hblk rfl).1
  have k5 := (blk (i := 5) hblk rfl).1
  clear hblk
  generalize hg : w.heap.size = g at *
  go_wp2_with fail
  refine (cra _).mono ?_
  rintro e w3 ⟨rfl, hb3⟩
  have q6 := b0.trans (hb3.mono (Nat.le_of_lt (World.block_lt_of_cell? _ _ k0)))
  clear hb3
  go_wp2_with fail
  go_ret2
  exact ⟨rfl, by first | assumption | (rw [hg]; assumption)⟩
set_option maxRecDepth 100000 in
set_option maxHeartbeats 1000000 in
theorem spec_fmt_loop (d a b c n : Int) (wd nn : ByteArray) (w : World) 
    (cw : ∀ w, Calls Tryz.prog 44 #[.int .i64 12] w fun e w' => e = .returned (.string wd) ∧ Below w.heap.size w w')
    (cnn : ∀ w, Calls Tryz.prog 64 #[.int .i64 n] w fun e w' => e = .returned (.string nn) ∧ Below w.heap.size w w')
    (lw : wd.size ≤ 5) (lnn : nn.size ≤ 4)
    (ok : ∀ w, Calls Tryz.prog 46 #[.agg #[.int .i64 12, .int .i64 d, .int .i64 a, .int .i64 b, .int .i64 c, .int .i64 n]] w fun e w' => e = .returned (.bool true) ∧ Below w.heap.size w w') :
    Calls Tryz.prog 45 #[.agg #[.int .i64 12, .int .i64 d, .int .i64 a, .int .i64 b, .int .i64 c, .int .i64 n]] w fun e w' => e = .returned (.tuple #[.string (wd ++ ({ data := #[32] } : ByteArray) ++ nn), .bool true]) ∧ Below w.heap.size w w' := by
  have hblk0 := heap_alloc_new w (.cells #[.int .i64 12, .int .i64 d, .int .i64 a, .int .i64 b, .int .i64 c, .int .i64 n] 34)
  go_enter Tryz.func45, Tryz.ntmps45
  go_wp2_with fail
  refine (ok _).mono ?_
  rintro e w1 ⟨rfl, hb⟩
  have hblk1 := heap_below hblk0 hb
  have b1 : Below w.heap.size w w1 := (below_alloc _ _).trans (hb.mono (by simp))
  have j0 := (blk (i := 0) hblk1 rfl).1
  clear hb hblk0 ok
  go_wp2_with fail
  refine (cw _).mono ?_
  rintro e w2 ⟨rfl, hb⟩
  have hblk := heap_below hblk1 hb
  have b0 : Below w.heap.size w w2 := b1.trans (hb.mono b1.size)
  clear hb hblk1 b1 j0 cw
  have k0 := (blk (i := 0) hblk rfl).1
  have k1 := (blk (i := 1) hblk rfl).1
  have k2 := (blk (i := 2) hblk rfl).1
  have k3 := (blk (i := 3) hblk rfl).1
  have k4 := (blk (i := 4) hblk rfl).1
  have k5 := (blk (i := 5) hblk rfl).1
  clear hblk
  generalize hg : w.heap.size = g at *
  go_wp2_with fail
  refine (cnn _).mono ?_
  rintro e w3 ⟨rfl, hb3⟩
  have q6 := b0.trans (hb3.mono (Nat.le_of_lt (World.block_lt_of_cell? _ _ k0)))
  clear hb3
  go_wp2_with fail
  go_ret2
  exact ⟨rfl, by first | assumption | (rw [hg]; assumption)⟩
set_option maxRecDepth 100000 in
set_option maxHeartbeats 1000000 in
theorem spec_fmt_end (d a b c n : Int) (wd  : ByteArray) (w : World) 
    (cw : ∀ w, Calls Tryz.prog 44 #[.int .i64 13] w fun e w' => e = .returned (.string wd) ∧ Below w.heap.size w w')
    (_lw : wd.size ≤ 5)
    (ok : ∀ w, Calls Tryz.prog 46 #[.agg #[.int .i64 13, .int .i64 d, .int .i64 a, .int .i64 b, .int .i64 c, .int .i64 n]] w fun e w' => e = .returned (.bool true) ∧ Below w.heap.size w w') :
    Calls Tryz.prog 45 #[.agg #[.int .i64 13, .int .i64 d, .int .i64 a, .int .i64 b, .int .i64 c, .int .i64 n]] w fun e w' => e = .returned (.tuple #[.string (wd), .bool true]) ∧ Below w.heap.size w w' := by
  have hblk0 := heap_alloc_new w (.cells #[.int .i64 13, .int .i64 d, .int .i64 a, .int .i64 b, .int .i64 c, .int .i64 n] 34)
  go_enter Tryz.func45, Tryz.ntmps45
  go_wp2_with fail
  refine (ok _).mono ?_
  rintro e w1 ⟨rfl, hb⟩
  have hblk1 := heap_below hblk0 hb
  have b1 : Below w.heap.size w w1 := (below_alloc _ _).trans (hb.mono (by simp))
  have j0 := (blk (i := 0) hblk1 rfl).1
  clear hb hblk0 ok
  go_wp2_with fail
  refine (cw _).mono ?_
  rintro e w2 ⟨rfl, hb⟩
  have hblk := heap_below hblk1 hb
  have b0 : Below w.heap.size w w2 := b1.trans (hb.mono b1.size)
  clear hb hblk1 b1 j0 cw
  have k0 := (blk (i := 0) hblk rfl).1
  have k1 := (blk (i := 1) hblk rfl).1
  have k2 := (blk (i := 2) hblk rfl).1
  have k3 := (blk (i := 3) hblk rfl).1
  have k4 := (blk (i := 4) hblk rfl).1
  have k5 := (blk (i := 5) hblk rfl).1
  clear hblk
  generalize hg : w.heap.size = g at *
  go_wp2_with fail
  go_ret2
  exact ⟨rfl, by first | assumption | (rw [hg]; assumption)⟩
end Go.Proofs.YtjclhlicginekaaGreatDoor
