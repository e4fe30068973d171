/- The law FnExactFormatStmt: the walk. -/
import Derived.Test.YtjclhlicginekaaDoorProg
import Derived.Test.YtjclhlicginekaaDoorSrcT
import Derived.Test.YtjclhlicginekaaDoorSrcJ
import Derived.Test.YtjclhlicginekaaDoorStmtA
import Derived.Test.YtjclhlicginekaaDoorAgg
namespace Go.Proofs.YtjclhlicginekaaDoor
open Go Go.RowKit
set_option maxRecDepth 100000 in
set_option maxHeartbeats 1000000 in
theorem exact_format (a0 a1 a2 a3 a4 a5 : Int) (w : World) (ht : TabOk w) (hz : 5 ≤ w.heap.size) (t : ByteArray) (r : Bool)
    (cs : ∀ w, Calls Tryd.prog 6 #[.agg #[.int .i64 a0, .int .i64 a1, .int .i64 a2, .int .i64 a3, .int .i64 a4, .int .i64 a5]] w fun e w' => e = .returned (.tuple #[.string t, .bool r]) ∧ Below w.heap.size w w')
    (ci : ∀ w, TabOk w → 5 ≤ w.heap.size → Calls Tryd.prog 8 #[.agg #[.int .i64 a0, .int .i64 a1, .int .i64 a2, .int .i64 a3, .int .i64 a4, .int .i64 a5]] w fun e w' => e = .returned (.tuple #[.string t, .bool r]) ∧ Below w.heap.size w w') :
    Calls Tryd.prog 3 #[.agg #[.int .i64 a0, .int .i64 a1, .int .i64 a2, .int .i64 a3, .int .i64 a4, .int .i64 a5]] w fun e w' => e = .returned (.bool true) ∧ Below w.heap.size w w' := by
  have b0 := heap_alloc_new w (.cells #[.int .i64 a0, .int .i64 a1, .int .i64 a2, .int .i64 a3, .int .i64 a4, .int .i64 a5] 23)
  have low := below_alloc w (.cells #[.int .i64 a0, .int .i64 a1, .int .i64 a2, .int .i64 a3, .int .i64 a4, .int .i64 a5] 23)
  have hrr : (r != r) = false := by cases r <;> rfl
  go_enter Tryd.func3, Tryd.ntmps3
  have cx0 := (blk (i := 0) b0 rfl).1
  have cx1 := (blk (i := 1) b0 rfl).1
  have cx2 := (blk (i := 2) b0 rfl).1
  have cx3 := (blk (i := 3) b0 rfl).1
  have cx4 := (blk (i := 4) b0 rfl).1
  have cx5 := (blk (i := 5) b0 rfl).1
  go_wp2_with fail
  generalize hw0 : w.alloc (.cells #[.int .i64 a0, .int .i64 a1, .int .i64 a2, .int .i64 a3, .int .i64 a4, .int .i64 a5] 23) = v0 at *
  clear hw0
  refine (toStmt_any a0 a1 a2 a3 a4 a5 v0).mono ?_
  rintro e w1 ⟨rfl, hb⟩
  replace low := low.trans (hb.mono low.size)
  replace b0 := heap_below b0 hb
  clear cx0 cx1 cx2 cx3 cx4 cx5
  clear hb
  have cx0 := (blk (i := 0) b0 rfl).1
  have cx1 := (blk (i := 1) b0 rfl).1
  have cx2 := (blk (i := 2) b0 rfl).1
  have cx3 := (blk (i := 3) b0 rfl).1
  have cx4 := (blk (i := 4) b0 rfl).1
  have cx5 := (blk (i := 5) b0 rfl).1
  go_wp2_with fail
  refine (cs _).mono ?_
  rintro e w2 ⟨rfl, hb⟩
  replace low := low.trans (hb.mono low.size)
  replace b0 := heap_below b0 hb
  clear cx0 cx1 cx2 cx3 cx4 cx5
  clear hb cs
  have cx0 := (blk (i := 0) b0 rfl).1
  have cx1 := (blk (i := 1) b0 rfl).1
  have cx2 := (blk (i := 2) b0 rfl).1
  have cx3 := (blk (i := 3) b0 rfl).1
  have cx4 := (blk (i := 4) b0 rfl).1
  have cx5 := (blk (i := 5) b0 rfl).1
  go_wp2_with fail
  refine (toStmt_any a0 a1 a2 a3 a4 a5 _).mono ?_
  rintro e w3 ⟨rfl, hb⟩
  replace low := low.trans (hb.mono low.size)
  replace b0 := heap_below b0 hb
  clear cx0 cx1 cx2 cx3 cx4 cx5
  clear hb
  go_wp2_with fail
  refine (ci _ (tab_at ht low hz) (top_at hz low)).mono ?_
  rintro e w4 ⟨rfl, hb⟩
  replace low := low.trans (hb.mono low.size)
  clear hb ci b0
  go_wp2_with fail
  go_ret
  exact ⟨rfl, low⟩
theorem FnExactFormatStmt_walk (a0 a1 a2 a3 a4 a5 : Int) (w : World) (_h0 : (Lit.int .i64 a0).wf = true) (_h1 : (Lit.int .i64 a1).wf = true) (_h2 : (Lit.int .i64 a2).wf = true) (_h3 : (Lit.int .i64 a3).wf = true) (_h4 : (Lit.int .i64 a4).wf = true) (_h5 : (Lit.int .i64 a5).wf = true) (ht : TabOk w) (hz : 5 ≤ w.heap.size) :
    Calls Tryd.prog 3 #[.agg #[.int .i64 a0, .int .i64 a1, .int .i64 a2, .int .i64 a3, .int .i64 a4, .int .i64 a5]] w fun e w' => e = .returned (.bool true) ∧ Below w.heap.size w w' := by
  by_cases hk : St.ok ⟨a0, a1, a2, a3, a4, a5⟩
  · exact exact_format a0 a1 a2 a3 a4 a5 w ht hz _ _ (fun w => spec_FormatStmt_yes a0 a1 a2 a3 a4 a5 w hk) (fun w h1 h2 => impl_FormatStmt_yes a0 a1 a2 a3 a4 a5 w hk h1 h2)
  · exact exact_format a0 a1 a2 a3 a4 a5 w ht hz _ _ (fun w => spec_FormatStmt_no a0 a1 a2 a3 a4 a5 w hk) (fun w _ _ => impl_FormatStmt_no a0 a1 a2 a3 a4 a5 w hk)
end Go.Proofs.YtjclhlicginekaaDoor
