/- slices.Grow of no slice, and slices.Concat of two, at ints. -/
import Derived.Lib.AppendZerosOnto
import Derived.Lib.Walk
import Derived.Test.YtcjgoonkdjaccaaProg
import Derived.Test.YtcjgoonkdjaccaaGrow
import Derived.Test.YtcjgoonkdjaccaaPost
namespace Go.Proofs.Ytcjgoonkdjaccaa
open Go Go.RowKit
set_option maxRecDepth 100000 in
set_option maxHeartbeats 2000000 in
theorem impl_GrowN (n : Nat) (h0 : 0 < n) (hn : n ≤ 10000000) (w : World) :
    Calls Try.prog 79 #[.slice none 0 0, .int .i64 n] w fun e w' => ∃ v, e = .returned v ∧ Grow w w' v 0 [] := by
  obtain ⟨i0, hi0, hz0, hs0, hb0⟩ := infoInt
  have hold : (Builtin.firstCells i0.size 0 (.slice none 0 0)).run Try.prog w.drew = .ok #[] w.drew := run_firstCells_none w.drew i0.size 0 0 0
  have hGn : n ≤ grownCap w n 0 3 := grownCap_ge w _ _ _
  have hGm : grownCap w n 0 3 ≤ maxLen := grownCap_le_maxLen w n 0 3 (by unfold maxLen; omega)
  have hrz : ∀ ty, (Builtin.append_ #[24, 3] ty #[.slice none 0 0, .int .i64 (n : Int)]).run Try.prog w =
      .ok (.slice (some ⟨w.heap.size, 0, none⟩) n (grownCap w n 0 3)) (w.drew.alloc (.cells (Builtin.zeroCells #[.int .i64 0] n ++ Builtin.zeroCells #[.int .i64 0] (grownCap w n 0 3 - n)) 3)) := fun ty => by
    have h := Lib.run_append_grow_zeros w 24 3 ty 3 i0 (.int .i64 0) .i64 .i64 Try.underlying24 Try.underlying3 hi0 hz0 none 0 0 [] hold n h0 (by omega) (by omega) (by omega) (by rw [hb0]; omega)
      (by rw [hb0]; exact growslice_fits (by omega) (by omega))
    have hc : (Value.int IntKind.i64 0).cells = #[.int .i64 0] := rfl
    simpa [hc] using h
  obtain ⟨G, hG⟩ : ∃ G, G = grownCap w n 0 3 := ⟨_, rfl⟩
  rw [← hG] at hrz hGn hGm
  have hGm2 : G ≤ 9223372036854775807 := by unfold maxLen at hGm; omega
  have hown : (w.drew.alloc (.cells (Builtin.zeroCells #[.int .i64 0] n ++ Builtin.zeroCells #[.int .i64 0] (G - n)) 3)).ownsRow w.heap.size 3 1 (.slice (some ⟨w.heap.size, 0, none⟩) 0 G) 0 [] := by
    refine ⟨rfl, .inr ⟨w.heap.size, G, Builtin.zeroCells #[.int .i64 0] n ++ Builtin.zeroCells #[.int .i64 0] (G - n), rfl, Nat.le_refl _, ?_, Nat.zero_le _, hGm, ?_, rfl⟩⟩
    · exact heap_alloc_new w.drew _
    · rw [Array.size_append, size_zeroCells, size_zeroCells]; simp; omega
  have hlow : Below w.heap.size w (w.drew.alloc (.cells (Builtin.zeroCells #[.int .i64 0] n ++ Builtin.zeroCells #[.int .i64 0] (G - n)) 3)) := (Below.refl _ w).drew.alloc (Nat.le_refl _) _
  have Hg := Lib.hid (show Grow w _ (.slice (some ⟨w.heap.size, 0, none⟩) 0 G) 0 [] from ⟨hown, hlow⟩)
  have h4 : (0 : Int) < n := by omega
  clear hold hG hi0 hz0 hs0 hb0 hown hlow hGm
  go_enter Try.func79, Try.ntmps79
  go_wp2_with (at_builtin; refine Lib.wpList_append_run _ rfl _ _ _ _ rfl _ _ rfl rfl _ _ (hrz _) ?_)
  all_goals (go_ret; exact ⟨_, rfl, Hg.out⟩)
theorem impl_Grow0 (w : World) :
    Calls Try.prog 79 #[.slice none 0 0, .int .i64 0] w fun e w' => ∃ v, e = .returned v ∧ Grow w w' v 0 [] := by
  go_enter Try.func79, Try.ntmps79
  go_wp2_with fail
  go_ret
  exact ⟨_, rfl, Grow.nil (Below.refl _ _)⟩
theorem impl_Grow (n : Nat) (hn : n ≤ 10000000) (w : World) :
    Calls Try.prog 79 #[.slice none 0 0, .int .i64 n] w fun e w' => ∃ v, e = .returned v ∧ Grow w w' v 0 [] := by
  rcases Nat.eq_zero_or_pos n with h | h
  · subst h; exact impl_Grow0 w
  · exact impl_GrowN n h hn w
set_option maxRecDepth 100000 in
set_option maxHeartbeats 2000000 in
theorem impl_Concat (g : Nat) (A B : Option Addr) (n c m d : Nat) (xs ys : List Int) (w : World) (hg : w.heap[g]? = some (.cells #[.slice A n c, .slice B m d] 24 (0, 0))) (hx : Ints w A xs) (hy : Ints w B ys) (lx : xs.length = n) (ly : ys.length = m) (mx : n ≤ 2000000) (my : m ≤ 2000000) :
    Calls Try.prog 50 #[.slice (some ⟨g, 0, none⟩) 2 2] w (MadeI (xs ++ ys) w) := by
  have LX := Lib.hid lx
  have LY := Lib.hid ly
  have hgl := heap_lt hg
  clear lx ly
  obtain ⟨c0, _⟩ := blk (i := 0) hg rfl
  obtain ⟨c1, _⟩ := blk (i := 1) hg rfl
  go_enter Try.func50, Try.ntmps50
  go_wp2_with fail
  go_loop [3, 11] (fun s i => (i = .int .i64 0 ∧ s = .int .i64 0) ∨ (i = .int .i64 1 ∧ s = .int .i64 (n : Int)) ∨ (i = .int .i64 2 ∧ s = .int .i64 ((n + m : Nat) : Int))) (fun _ i => 2 - (intOf i).toNat)
  case atStart => exact .inl ⟨rfl, rfl⟩
  case round =>
    rcases hrel with ⟨rfl, rfl⟩ | ⟨rfl, rfl⟩ | ⟨rfl, rfl⟩
    · have h0 : ¬ (n : Int) < 0 := by omega
      go_wp2_with fail
      go_round
      case rel => exact .inr (.inl ⟨rfl, by go_num⟩)
      case measure => simp [intOf]
    · have h0 : ¬ (n : Int) + (m : Int) < 0 := by omega
      go_wp2_with fail
      go_round
      case rel => exact .inr (.inr ⟨rfl, by go_num⟩)
      case measure => simp [intOf]
    · go_wp2_with fail
      refine (impl_Grow (n + m) (by omega) w).mono ?_
      rintro e w1 ⟨v, rfl, gr0⟩
      have Hg0 := Lib.hid gr0
      clear gr0
      go_wp2_with fail
      go_loopw [6, 27] (fun v i wr => (i = .int .i64 0 ∧ Grow w wr v 0 []) ∨ (i = .int .i64 1 ∧ Grow w wr v n xs) ∨ (i = .int .i64 2 ∧ Grow w wr v (n + m) (xs ++ ys))) (fun _ i _ => 2 - (intOf i).toNat)
      case atStart => exact .inl ⟨rfl, Hg0.out⟩
      case round =>
        clear Hg0
        rcases hrel with ⟨rfl, gr⟩ | ⟨rfl, gr⟩ | ⟨rfl, gr⟩
        · have b := (gr.low.block g hgl).trans hg
          obtain ⟨c2, _⟩ := blk (i := 0) b rfl
          have ix := (hx.bound.below gr.low).ints gr.size
          have gs := gr.size
          clear c0 c1 b hg hx hy
          go_wp2_with (first | (at_builtin; refine app_ints elemInt rfl _ _ rfl w.heap.size _ 0 [] rfl gr.own A n c xs rfl ix LX.out (by unfold maxLen; omega) (by omega) gs ?_))
          intro v5 w5 ho5 hg5 _
          have Hg := Lib.hid (gr.app ho5 hg5 (ys := xs) rfl)
          clear ho5 hg5 gr ix
          go_wp2_with fail
          go_roundw
          case rel => exact .inr (.inl ⟨rfl, Hg.out⟩)
          case measure => simp [intOf]
        · have b := (gr.low.block g hgl).trans hg
          obtain ⟨c2, _⟩ := blk (i := 1) b rfl
          have iy := (hy.bound.below gr.low).ints gr.size
          have gs := gr.size
          clear c0 c1 b hg hx hy
          go_wp2_with (first | (at_builtin; refine app_ints elemInt rfl _ _ rfl w.heap.size _ n (intVals xs) rfl gr.own B m d ys rfl iy LY.out (by unfold maxLen; omega) (by omega) gs ?_))
          intro v5 w5 ho5 hg5 _
          have Hg := Lib.hid (gr.app ho5 hg5 (ys := xs ++ ys) (by simp [intVals]))
          clear ho5 hg5 gr iy
          go_wp2_with fail
          go_roundw
          case rel => exact .inr (.inr ⟨rfl, Hg.out⟩)
          case measure => simp [intOf]
        · go_wp2_with fail
          go_ret
          exact gr.done
end Go.Proofs.Ytcjgoonkdjaccaa
