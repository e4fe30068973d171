/- The law FnExactParseStmt: the walk. -/
import Derived.Test.YtjclhlicginekaaDoorProg
import Derived.Test.YtjclhlicginekaaDoorSrcQ
import Derived.Test.YtjclhlicginekaaDoorSrcP
namespace Go.Proofs.YtjclhlicginekaaDoor
open Go Go.RowKit
theorem spec_ParseStmt (s : ByteArray) (hm : s.size ≤ 1048576) (w : World) :
    Calls Tryd.prog 9 #[.string s] w fun e w' => e = .returned (optV (parseL s.data.toList)) ∧ Below w.heap.size w w' := by
  have hp := cand_line s.data.toList
  cases hb : splitB s.data.toList with
  | false =>
    have hF : splitF s.data.toList = [] := by
      by_cases h : splitOK s.data.toList
      · rw [(splitF_yes h).2] at hb; cases hb
      · exact (splitF_no h).1
    have e : parseL s.data.toList = none := by rw [← hp, hF]; rfl
    rw [e]
    exact spec_Parse_bad s hm w hb
  | true =>
    by_cases hl : (splitF s.data.toList).length = 0 ∨ 5 < (splitF s.data.toList).length
    · have e : parseL s.data.toList = none := by
        rw [← hp]
        unfold candI
        rw [if_pos hl]; rfl
      rw [e]
      exact spec_Parse_len s hm w hb hl
    · have hcand : candI (splitF s.data.toList) = (opOf ((splitF s.data.toList).getD 0 [])).map fun op => candO op (splitF s.data.toList) := by
        unfold candI
        rw [if_neg hl]
      rw [hcand] at hp
      refine spec_Parse_go s hm w (splitF s.data.toList) rfl hb (by omega) (by omega) (split_field s.data.toList) (parseL s.data.toList) (fun h => ?_) (fun u h => ?_)
      · rw [← hp, h]; rfl
      · rw [← hp, h]; rfl
set_option maxRecDepth 100000 in
set_option maxHeartbeats 1000000 in
theorem FnExactParseStmt_walk (s : ByteArray) (w : World) (hm : s.size ≤ 9223372036854775807) (ht : TabOk w) (he : ErrOk w) (hz : 5 ≤ w.heap.size) :
    Calls Tryd.prog 4 #[.string s] w fun e w' => e = .returned (.bool true) ∧ Below w.heap.size w w' := by
  by_cases h1 : 1048576 < s.size
  · have hd : decide ((1048576 : Int) < (s.size : Int)) = true := by simp; omega
    go_enter Tryd.func4, Tryd.ntmps4
    go_wp2_with fail
    go_ret
    exact ⟨rfl, Below.refl _ _⟩
  · have hd : decide ((1048576 : Int) < (s.size : Int)) = false := by simp; omega
    have h2 : s.size ≤ 1048576 := by omega
    have c1 := spec_ParseStmt s h2 w
    have c2 := fun w h1 h2' h3 => impl_ParseStmt s h2 w h1 h2' h3
    obtain ⟨so, sd, sa, sb, sc, sn, b, hr⟩ := optV_form (parseL s.data.toList)
    rw [hr] at c1 c2
    have hbb : (b != b) = false := by cases b <;> rfl
    clear hr
    go_enter Tryd.func4, Tryd.ntmps4
    go_wp2_with fail
    refine c1.mono ?_
    rintro e w1 ⟨rfl, hb1⟩
    have hx1 := heap_alloc_new w1 (.cells #[.int .i64 so, .int .i64 sd, .int .i64 sa, .int .i64 sb, .int .i64 sc, .int .i64 sn] 26)
    have low1 := low_alloc hb1 (.cells #[.int .i64 so, .int .i64 sd, .int .i64 sa, .int .i64 sb, .int .i64 sc, .int .i64 sn] 26)
    clear c1 hb1
    go_upto_region 4 with (fail)
    generalize hg1 : w1.heap.size = g1 at *
    generalize hw2 : w1.alloc (.cells #[.int .i64 so, .int .i64 sd, .int .i64 sa, .int .i64 sb, .int .i64 sc, .int .i64 sn] 26) = w2 at *
    clear hw2
    go_wp2_with fail
    refine (c2 _ (ht.below low1 hz) (he.below low1 hz) (Nat.le_trans hz low1.size)).mono ?_
    rintro e w3 ⟨rfl, hb3⟩
    have low3 := low1.trans (hb3.mono low1.size)
    have hx3 := heap_below hx1 hb3
    have hx5 := heap_alloc hx3 (.cells #[.int .i64 so, .int .i64 sd, .int .i64 sa, .int .i64 sb, .int .i64 sc, .int .i64 sn] 26)
    have hy5 := heap_alloc_new w3 (.cells #[.int .i64 so, .int .i64 sd, .int .i64 sa, .int .i64 sb, .int .i64 sc, .int .i64 sn] 26)
    have low5 := low_alloc low3 (.cells #[.int .i64 so, .int .i64 sd, .int .i64 sa, .int .i64 sb, .int .i64 sc, .int .i64 sn] 26)
    clear c2 hb3 hx1 hx3 low1 low3
    go_upto_region 5 with (fail)
    generalize hg3 : w3.heap.size = g3 at *
    generalize hw4 : w3.alloc (.cells #[.int .i64 so, .int .i64 sd, .int .i64 sa, .int .i64 sb, .int .i64 sc, .int .i64 sn] 26) = w4 at *
    clear hw4
    have x0 := (blk (i := 0) hx5 rfl).1
    have x1 := (blk (i := 1) hx5 rfl).1
    have x2 := (blk (i := 2) hx5 rfl).1
    have x3 := (blk (i := 3) hx5 rfl).1
    have x4 := (blk (i := 4) hx5 rfl).1
    have x5 := (blk (i := 5) hx5 rfl).1
    have y0 := (blk (i := 0) hy5 rfl).1
    have y1 := (blk (i := 1) hy5 rfl).1
    have y2 := (blk (i := 2) hy5 rfl).1
    have y3 := (blk (i := 3) hy5 rfl).1
    have y4 := (blk (i := 4) hy5 rfl).1
    have y5 := (blk (i := 5) hy5 rfl).1
    go_wp2_with fail
    refine (eqStmt_any so sd sa sb sc sn _).mono ?_
    rintro e w6 ⟨rfl, hb6⟩
    have low6 := low5.trans (hb6.mono low5.size)
    clear hb6 x0 x1 x2 x3 x4 x5 y0 y1 y2 y3 y4 y5
    go_wp2_with fail
    go_ret
    exact ⟨rfl, low6⟩
end Go.Proofs.YtjclhlicginekaaDoor
