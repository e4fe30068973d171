/- The model of TossNew makes the same toss. -/
import Derived.Test.YtedfblgopmiheaaProg
import Derived.Test.YtedfblgopmiheaaTossN
namespace Go.Proofs.Ytedfblgopmiheaa
open Go Go.RowKit
/-- The model's toss: two slices copied, the box behind them, the commitments behind the box. -/
structure TossCop (gb : Nat) (wg wr : World) (v0 v1 v2 : Value) (k : Nat) (zs : List Int) : Prop where
  box : wr.heap[gb]? = some (.cells #[v0, v1, v2] 31 (0, 0))
  own : OwnI (gb + 1) wr.heap.size wr v2 k zs
  low : Below gb wg wr
theorem TossCop.drewN {gb : Nat} {wg wr : World} {v0 v1 v2 : Value} {k : Nat} {zs : List Int} (h : TossCop gb wg wr v0 v1 v2 k zs) (n : Nat) : TossCop gb wg (wr.drewN n) v0 v1 v2 k zs :=
  ⟨h.box, ⟨h.own.own, h.own.top⟩, below_drewN h.low n⟩
theorem TossCop.bx {gb : Nat} {wg wr w2 : World} {v0 v1 v2 : Value} {k : Nat} {zs : List Int} {o : Obj} (h : TossCop gb wg wr v0 v1 v2 k zs) (hg : (wr.alloc o).grownBy w2 v2.ownBlock) :
    w2.heap[gb]? = some (.cells #[v0, v1, v2] 31 (0, 0)) :=
  heap_grown (heap_alloc h.box o) hg (fun e => by have := (h.own.ltB e).1; omega)
theorem TossCop.app {gb : Nat} {wg wr w2 : World} {v0 v1 v2 : Value} {k g cap : Nat} {zs : List Int} {o : Obj} {x : Int} (h : TossCop gb wg wr v0 v1 v2 k zs)
    (ho : w2.ownsRow (gb + 1) 3 1 (.slice (some ⟨g, 0, none⟩) (k + 1) cap) (k + 1) (intVals (zs ++ [x]))) (hg : (wr.alloc o).grownBy w2 v2.ownBlock) :
    TossCop gb wg (w2.setCell ⟨gb, 2, none⟩ (.slice (some ⟨g, 0, none⟩) (k + 1) cap)) v0 v1 (.slice (some ⟨g, 0, none⟩) (k + 1) cap) (k + 1) (zs ++ [x]) := by
  have hl := heap_lt h.box
  refine ⟨heap_set (h.bx hg) _, ((OwnI.of_own ho).setFar (by omega) _).wide (Nat.le_refl _) (by simp), ?_⟩
  exact ((h.low.alloc (by omega) o).grown hg (by simp; omega) (fun k e => by have := (h.own.ltB e).1; omega)).setCell (by simp) _
set_option maxHeartbeats 1000000 in
theorem spec_TossNew (A B : Option Addr) (n c m d : Nat) (x y : List Int) (w : World) (hx : Ints w A x) (hy : Ints w B y) (lx : x.length = n) (ly : y.length = m) (mx : n ≤ 2000000) (my : m ≤ 2000000) :
    Calls Try.prog 21 #[.slice A n c, .slice B m d] w (TossMade x y w) := by
  have hok : tossOk x y ↔ 1 ≤ n ∧ n ≤ 5 ∧ m = n ∧ canTo x y n := by unfold tossOk; rw [lx, ly]
  have LX := Lib.hid lx
  have LY := Lib.hid ly
  clear lx ly
  by_cases hp : (1 : Int) ≤ n ∧ (n : Int) ≤ 5
  · by_cases hnm : m = n
    · subst hnm
      have hp' := decide_eq_true hp
      obtain ⟨hp0, hp1⟩ := hp
      have Hok := Lib.hid hok
      clear hok
      have r0 := heap_alloc_new w (.cells #[.slice none 0 0, .slice none 0 0, .slice none 0 0] 31)
      have k0 : Below w.heap.size w (w.alloc (.cells #[.slice none 0 0, .slice none 0 0, .slice none 0 0] 31)) := (Below.refl _ _).alloc (Nat.le_refl _) _
      have hown0 := World.ownsRow_made (e := 3) (size := 1) (base := w.heap.size + 1) (w.alloc (.cells #[.slice none 0 0, .slice none 0 0, .slice none 0 0] 31)) #[] 0 (by simp) (by unfold maxLen; omega) rfl
      (try simp only [World.size_alloc] at hown0)
      have hx0 := (hx.bound.below (k0.alloc k0.size (.cells #[] 3))).ints (k0.alloc k0.size (.cells #[] 3)).size
      go_enter Try.func21, Try.ntmps21
      go_wp2_with fail
      refine (l01In_is m 1 5 true hp' _).mono ?_
      rintro e w1 ⟨rfl, rfl⟩
      go_wp2_with (first | (at_builtin; refine app_ints elemInt rfl _ _ rfl (w.heap.size + 1) _ 0 [] rfl hown0 A m c x rfl hx0 LX.out (by unfold maxLen; omega) (by omega) (by simp) ?_))
      intro v0 w1 ho0 hg0 hat0
      (try simp only [Nat.zero_add, List.nil_append] at ho0)
      have hs1 := hg0.size
      have b1 := Below.grown (k0.alloc k0.size (.cells #[] 3)) hg0 (by simp; omega) (fun k e => by simp [Value.ownBlock] at e; omega)
      have r1 := heap_grown (heap_alloc r0 (.cells #[] 3)) hg0 (by simp [Value.ownBlock])
      have o0 := OwnI.of_own ho0
      (try simp only [World.size_alloc] at hs1)
      clear ho0 hg0 hat0 hown0 hx0 r0 k0
      have hown1 := World.ownsRow_made (e := 3) (size := 1) (base := w1.heap.size) w1 #[] 0 (Nat.le_refl _) (by unfold maxLen; omega) rfl
      have hy0 := (hy.bound.below (b1.alloc b1.size (.cells #[] 3))).ints (b1.alloc b1.size (.cells #[] 3)).size
      go_wp2_with (first | (at_builtin; refine app_ints elemInt rfl _ _ rfl w1.heap.size _ 0 [] rfl hown1 B m d y rfl hy0 LY.out (by unfold maxLen; omega) (by omega) (by simp) ?_))
      intro v1 w2 ho1 hg1 hat1
      (try simp only [Nat.zero_add, List.nil_append] at ho1)
      have hs2 := hg1.size
      have b2 := Below.grown (b1.alloc b1.size (.cells #[] 3)) hg1 (by have := b1.size; simp; omega) (fun k e => by simp [Value.ownBlock] at e; omega)
      have r2 := heap_grown (heap_alloc r1 (.cells #[] 3)) hg1 (by have := heap_lt r1; simp [Value.ownBlock]; omega)
      have o1 := OwnI.of_own ho1
      have o0' := (o0.alloc (.cells #[] 3)).mid (Mid.of_grown (lo := w1.heap.size) (hi := w1.heap.size + 1) hg1 (fun k e => by simp [Value.ownBlock] at e; omega)) (.inl (Nat.le_refl _))
      have a01 := o0'.apart_of o1 (Nat.le_refl _)
      (try simp only [World.size_alloc] at hs2)
      clear ho1 hg1 hat1 hown1 hy0 r1 o0
      obtain ⟨A0, d0, rfl⟩ := o0'.form
      obtain ⟨A1, d1, rfl⟩ := o1.form
      have g2 := heap_alloc_new w2 (.cells #[(.slice A0 m d0), (.slice A1 m d1), .slice none 0 0] 31)
      have c2 : TossCop w2.heap.size (w2.alloc (.cells #[(.slice A0 m d0), (.slice A1 m d1), .slice none 0 0] 31)) (w2.alloc (.cells #[(.slice A0 m d0), (.slice A1 m d1), .slice none 0 0] 31)) (.slice A0 m d0) (.slice A1 m d1) (.slice none 0 0) 0 [] := ⟨g2, OwnI.nil _ _ _, Below.refl _ _⟩
      have b3 := b2.alloc b2.size (.cells #[(.slice A0 m d0), (.slice A1 m d1), .slice none 0 0] 31)
      have r3 := heap_alloc r2 (.cells #[(.slice A0 m d0), (.slice A1 m d1), .slice none 0 0] 31)
      have p0 := o0'.alloc (.cells #[(.slice A0 m d0), (.slice A1 m d1), .slice none 0 0] 31)
      have p1 := o1.alloc (.cells #[(.slice A0 m d0), (.slice A1 m d1), .slice none 0 0] 31)
      have hsz := heap_lt g2
      clear g2 o0' o1 b2 r2 b1
      go_wp2_with fail
      generalize hwg : w2.alloc (.cells #[(.slice A0 m d0), (.slice A1 m d1), .slice none 0 0] 31) = wg at *
      generalize hgb : w2.heap.size = gb at *
      clear hwg hgb
      go_loopw [7] (fun i wr => ∃ (k : Nat) (v2 : Value), k ≤ m ∧ i = .int .i64 k ∧ Hid (canTo x y k) ∧ TossCop gb wg wr (.slice A0 m d0) (.slice A1 m d1) v2 k (tossC x y k)) (fun i _ => m - (intOf i).toNat)
      case atStart => exact ⟨0, _, Nat.zero_le _, rfl, fun j hj => by omega, c2⟩
      case round =>
        obtain ⟨k, v2, hk, rfl, hc, tb⟩ := hrel
        clear c2
        have bw := b3.trans (tb.low.mono (by omega))
        by_cases hlt : k < m
        · obtain ⟨q0, o0, rfl, hq0, c0⟩ := (hx.bound.below bw).at_ (j := k) (by rw [LX.out]; exact hlt)
          obtain ⟨q1, o1, rfl, hq1, c1⟩ := (hy.bound.below bw).at_ (j := k) (by rw [LY.out]; exact hlt)
          have Nz := Lib.hid (tossC_next x y k)
          have hnext : canC (x.getD k 0) (y.getD k 0) → canTo x y (k + 1) := canTo_next hc.out
          have hprev : canTo x y m → canC (x.getD k 0) (y.getD k 0) := fun h => h k hlt
          generalize x.getD k 0 = vx at c0 Nz hnext hprev
          generalize y.getD k 0 = vy at c1 Nz hnext hprev
          have hk0 : (0 : Int) ≤ k := by omega
          have hk1 : (k : Int) < m := by omega
          have Hprev := Lib.hid hprev
          have Hnext := Lib.hid hnext
          have Tb := Lib.hid tb
          have Bw := Lib.hid bw
          have P0 := Lib.hid p0
          have P1 := Lib.hid p1
          have A01 := Lib.hid a01
          have B3 := Lib.hid b3
          have R3 := Lib.hid r3
          clear hx hy hprev hnext tb bw p0 p1 a01 b3 r3
          by_cases hcan : canC vx vy
          · have Hn := Lib.hid (Hnext.out hcan)
            have hd := decide_eq_true hcan
            clear hcan Hprev Hnext
            have Hd := Lib.hid hd
            clear hd
            go_wp2_with fail
            go_quiet (first | (go_at_call 40; refine Calls.quiet_of_same ((spec_l05Pair vx vy true Hd.out _).mono fun _ _ ⟨he, hw⟩ => ⟨he, hw.symm⟩)))
            go_wp2_with fail
            have tb := Tb.out.drewN nq
            have c0' : (wr.drewN nq).cell? ⟨q0, o0 + k, none⟩ = some (.int .i64 vx) := c0
            have c1' : (wr.drewN nq).cell? ⟨q1, o1 + k, none⟩ = some (.int .i64 vy) := c1
            have hsz' : wg.heap.size ≤ (wr.drewN nq).heap.size := tb.low.size
            generalize wr.drewN nq = wx at *
            clear c0 c1
            obtain ⟨cv, hcv⟩ : ∃ cv, commitI vx vy = cv := ⟨_, rfl⟩
            have Hcv := Lib.hid hcv
            rw [hcv] at Nz
            clear hcv Bw Tb Hd
            have hown := tb.own.own
            obtain ⟨a2, f2⟩ := blk (i := 2) tb.box rfl
            have a2' : (wx.alloc (.cells #[.int .i64 cv] 3)).cell? ⟨gb, 2, none⟩ = some v2 := (blk (i := 2) (heap_alloc tb.box _) rfl).1
            go_region_law (first | (refine app_step (e' := 3) elemInt (by rfl) _ _ (by rfl) (gb + 1) v2 k (intVals (tossC x y k)) (by rfl) ((hown.alloc _).drew) wx.heap.size 1 1 _ (0, 0) (by rfl) (heap_alloc_new wx _) (by rfl) (oneCell_i64 [_]) (by omega) (by unfold maxLen; omega) (by omega) (by simp; omega) (wx.heap.size + 1) (by simp) ?_; intro g3 e3 w5 ho5 hg5 hat5 hl5; (have bx5 := tb.bx (o := .cells #[.int .i64 cv] 3) ⟨hg5.os, hg5.tape, hg5.output, hg5.size, hg5.block⟩); (obtain ⟨a5, f5⟩ := blk (i := 2) bx5 rfl)) | (go_simp; go_at_call 19; (with_reducible refine (spec_Commit_is vx vy cv Hcv.out _).mono ?_); rintro e w' ⟨rfl, rfl⟩))
            all_goals
              have tb5 := tb.app (x := cv) (o := .cells #[.int .i64 cv] 3) (by simpa [intVals] using ho5) ⟨hg5.os, hg5.tape, hg5.output, hg5.size, hg5.block⟩
              rw [← Nz.out] at tb5
              have Tb5 := Lib.hid tb5
              clear tb5 bx5 a2 a2' f2 tb ho5 hg5 hat5 hown hl5 c0' c1' hsz'
              go_wp2_with fail
              go_roundw
              case rel => exact ⟨k + 1, _, by omega, by go_num, Hn, Tb5.out⟩
              case measure => simp [intOf]; omega
          · have Hno := Lib.hid (show ¬ tossOk x y from fun e => hcan (Hprev.out (Hok.out.1 e).2.2.2))
            have hd := decide_eq_false hcan
            clear hcan Hprev Hnext
            have Hd := Lib.hid hd
            clear hd
            have r4 := Tb.out.low.block _ (by omega : w.heap.size < gb)
            obtain ⟨_, f0⟩ := blk (i := 0) (r4.trans R3.out) rfl
            obtain ⟨_, f1⟩ := blk (i := 1) (r4.trans R3.out) rfl
            obtain ⟨_, f2⟩ := blk (i := 2) (r4.trans R3.out) rfl
            have hz := Lib.hid (heap_set (i := 2) (heap_set (i := 1) (heap_set (i := 0) (r4.trans R3.out) (.slice none 0 0)) (.slice none 0 0)) (.slice none 0 0))
            have hl := Lib.hid (((Bw.out.setCell (p := ⟨w.heap.size, 0, none⟩) (Nat.le_refl _) (.slice none 0 0)).setCell (p := ⟨w.heap.size, 1, none⟩) (Nat.le_refl _) (.slice none 0 0)).setCell (p := ⟨w.heap.size, 2, none⟩) (Nat.le_refl _) (.slice none 0 0))
            clear r4
            go_wp2_with fail
            go_quiet (first | (go_at_call 40; refine Calls.quiet_of_same ((spec_l05Pair vx vy false Hd.out _).mono fun _ _ ⟨he, hw⟩ => ⟨he, hw.symm⟩)))
            go_wp2_with fail
            (try simp only [Exit.inBlock, Exit.then])
            refine bodyPost_ret (results_cell_tmp_row (P := Try.prog) rfl _ _ _ w.heap.size 31 _ (0, 0) _ rfl rfl hz.out Try.underlying31 rfl (by kernel_rfl)) rfl ?_
            exact TossMade.no Hno.out (below_drewN hl.out _)
        · obtain rfl : k = m := by omega
          have Hy := Lib.hid (Hok.out.2 ⟨by omega, by omega, by first | trivial | rfl, hc.out⟩)
          have tz := tossC_length x y k
          have X1 := Lib.hid (List.take_of_length_le (Nat.le_of_eq LX.out))
          have Y1 := Lib.hid (List.take_of_length_le (Nat.le_of_eq LY.out))
          obtain ⟨A2, d2, rfl⟩ := tb.own.form
          obtain ⟨a0, _⟩ := blk (i := 0) tb.box rfl
          obtain ⟨a1, _⟩ := blk (i := 1) tb.box rfl
          obtain ⟨a2, _⟩ := blk (i := 2) tb.box rfl
          have r4 := (tb.low.block _ (by omega : w.heap.size < gb)).trans r3
          obtain ⟨_, f0⟩ := blk (i := 0) r4 rfl
          obtain ⟨_, f1⟩ := blk (i := 1) r4 rfl
          obtain ⟨_, f2⟩ := blk (i := 2) r4 rfl
          have hz := Lib.hid (heap_set (i := 2) (heap_set (i := 1) (heap_set (i := 0) r4 (.slice A0 k d0)) (.slice A1 k d1)) (.slice A2 k d2))
          have hl := Lib.hid (((bw.setCell (p := ⟨w.heap.size, 0, none⟩) (Nat.le_refl _) (.slice A0 k d0)).setCell (p := ⟨w.heap.size, 1, none⟩) (Nat.le_refl _) (.slice A1 k d1)).setCell (p := ⟨w.heap.size, 2, none⟩) (Nat.le_refl _) (.slice A2 k d2))
          have s0 := p0.mid (Mid.mk tb.low.os tb.low.tape tb.low.output tb.low.size (lo := gb) (hi := wg.heap.size) (fun i hi hd => tb.low.block i (by omega))) (.inl (by omega))
          have s1 := p1.mid (Mid.mk tb.low.os tb.low.tape tb.low.output tb.low.size (lo := gb) (hi := wg.heap.size) (fun i hi hd => tb.low.block i (by omega))) (.inl (by omega))
          have ht : OwnToss w.heap.size wr.heap.size wr (.slice A0 k d0) (.slice A1 k d1) (.slice A2 k d2) k k k x y (tossC x y k) := by
            have := tb.low.size
            exact ⟨s0.wide (by omega) (by omega), s1.wide (by omega) (by omega), tb.own.wide (by omega) (Nat.le_refl _), a01, s0.apart_of tb.own (by omega), s1.apart_of tb.own (by omega)⟩
          have hs0 : OwnToss (w.heap.size + 1) wr.heap.size wr (.slice A0 k d0) (.slice A1 k d1) (.slice A2 k d2) k k k x y (tossC x y k) := by
            have := tb.low.size
            exact ⟨s0.wide (by omega) (by omega), s1.wide (by omega) (by omega), tb.own.wide (by omega) (Nat.le_refl _), a01, s0.apart_of tb.own (by omega), s1.apart_of tb.own (by omega)⟩
          have ho := Lib.hid ((((hs0.setFar (g := w.heap.size) (i := 0) (by omega) (.slice A0 k d0)).setFar (g := w.heap.size) (i := 1) (by omega) (.slice A1 k d1)).setFar (g := w.heap.size) (i := 2) (by omega) (.slice A2 k d2)).wide (lo' := w.heap.size) (by omega) (Nat.le_refl _))
          clear tz tb r4 s0 s1 ht hs0 bw p0 p1 a01 b3 r3 hx hy
          go_wp2_with fail
          (try simp only [Exit.inBlock, Exit.then])
          refine bodyPost_ret (results_cell_tmp_row (P := Try.prog) rfl _ _ _ w.heap.size 31 _ (0, 0) _ rfl rfl hz.out Try.underlying31 rfl (by kernel_rfl)) rfl ?_
          exact TossMade.yes Hy.out LX.out (by rw [X1.out, Y1.out]; exact ho.out.wide (Nat.le_refl _) (by simp)) hl.out
    · have Hno := Lib.hid (show ¬ tossOk x y from fun e => hnm (hok.1 e).2.2.1)
      have hne : ((m : Int) == (n : Int)) = false := beq_eq_false_iff_ne.2 (by omega)
      have hp' := decide_eq_true hp
      clear hok hnm
      go_enter Try.func21, Try.ntmps21
      go_wp2_with fail
      refine (l01In_is n 1 5 true hp' _).mono ?_
      rintro e w1 ⟨rfl, rfl⟩
      go_wp2_with fail
      go_returns
      exact TossMade.no Hno.out ((Below.refl _ _).alloc (Nat.le_refl _) _)
  · have Hno := Lib.hid (show ¬ tossOk x y from fun e => hp (by have := hok.1 e; omega))
    have hp' := decide_eq_false hp
    clear hok hp
    go_enter Try.func21, Try.ntmps21
    go_wp2_with fail
    refine (l01In_is n 1 5 false hp' _).mono ?_
    rintro e w1 ⟨rfl, rfl⟩
    go_wp2_with fail
    go_returns
    exact TossMade.no Hno.out ((Below.refl _ _).alloc (Nat.le_refl _) _)
end Go.Proofs.Ytedfblgopmiheaa
