/- FlowStep: the model's. No condition. -/
import Derived.Test.YtklmhkckhdmelaaProg
import Derived.Test.YtklmhkckhdmelaaFlowS
import Derived.Test.YtklmhkckhdmelaaFlowI
import Derived.Test.YtklmhkckhdmelaaStmtK
import Derived.Test.YtklmhkckhdmelaaFlowU
import Derived.Test.YtklmhkckhdmelaaPgB
namespace Go.Proofs.Ytklmhkckhdmelaa
open Go Go.RowKit
/-- A number of a row of the call's own is set. -/
theorem OwnI.set {lo hi n c g : Nat} {w : World} {zs : List Int} (h : OwnI lo hi w (.slice (some ⟨g, 0, none⟩) n c) n zs) (j : Nat) (x : Int) : OwnI lo hi (w.setCell ⟨g, j, none⟩ (.int .i64 x)) (.slice (some ⟨g, 0, none⟩) n c) n (zs.set j x) := by
  refine ⟨?_, h.top⟩
  have := (h.own.stored j (.int .i64 x)).1
  simpa [intVals, List.map_set] using this
theorem OwnI.other {lo hi lo' hi' n m c g : Nat} {w : World} {v : Value} {zs ys : List Int} (h : OwnI lo hi w v m ys) (k : OwnI lo' hi' w (.slice (some ⟨g, 0, none⟩) n c) n zs) (ha : apart v (.slice (some ⟨g, 0, none⟩) n c)) (j : Nat) (x : Int) : OwnI lo hi (w.setCell ⟨g, j, none⟩ (.int .i64 x)) v m ys :=
  h.keep (u := .slice (some ⟨g, 0, none⟩) n c) (k.own.stored j (.int .i64 x)).2 ha
theorem OwnI.at_ {lo hi n c g : Nat} {w : World} {zs : List Int} (h : OwnI lo hi w (.slice (some ⟨g, 0, none⟩) n c) n zs) {j : Nat} (hj : j < n) : w.cell? ⟨g, j, none⟩ = some (.int .i64 (zs.getD j 0)) ∧ w.frozen? ⟨g, j, none⟩ = false := by
  have hl := h.len
  refine ⟨?_, h.own.frozenAt j⟩
  rw [h.own.cellAt j (by omega)]
  simp [intVals, List.getElem?_map, List.getD_eq_getElem?_getD, List.getElem?_eq_getElem (show j < zs.length by omega)]
theorem Ints.far {w : World} {g i : Nat} {A : Option Addr} {zs : List Int} {v : Value} (h : Ints w A zs) (hne : ∀ x, A = some x → x.block ≠ g) : Ints (w.setCell ⟨g, i, none⟩ v) A zs := fun h0 => by
  obtain ⟨b, o, e, hl, hc⟩ := h h0
  exact ⟨b, o, e, by simpa using hl, fun j hj => far_one (hc j hj) (show b ≠ g from hne _ e) v⟩
theorem flow_outS {w wr : World} {fs ss : Array Value} {u v : Value} {A0 A1 : Option Addr} {n0 n1 c0 c1 lo hi : Nat} {z0 z1 : List Int} (h : Bx3F w wr fs ss #[u, v]) (o : OwnFlow lo hi wr (.slice A0 n0 c0) (.slice A1 n1 c1) n0 n1 z0 z1)
    (hlo : w.heap.size + 2 < lo) (hhi : hi ≤ wr.heap.size) (tmps : Array Value) (ht : tmps.getD 4 undef = .pointer (some ⟨w.heap.size + 2, 0, none⟩)) :
    bodyPost Try.prog Try.f20 (Post_Flow z0 z1 w) Exit.ret { tmps := tmps, defers := [] } ((wr.setCell ⟨w.heap.size + 2, 0, none⟩ (.slice A0 n0 c0)).setCell ⟨w.heap.size + 2, 1, none⟩ (.slice A1 n1 c1)) := by
  have b2 := heap_set (i := 1) (heap_set (i := 0) h.r (.slice A0 n0 c0)) (.slice A1 n1 c1)
  have o2 := (o.setFar (g := w.heap.size + 2) (i := 0) hlo (.slice A0 n0 c0)).setFar (g := w.heap.size + 2) (i := 1) hlo (.slice A1 n1 c1)
  refine bodyPost_ret (results_cell_row (P := Try.prog) rfl _ _ (w.heap.size + 2) 32 _ (0, 0) _ ht b2 Try.underlying32 rfl (by kernel_rfl)) rfl ?_
  exact ⟨_, _, _, _, _, _, rfl, o2.wide (by omega) (by simpa using hhi), (h.low.setCell (by simp) _).setCell (by simp) _⟩
/-- Not performed: the statement is not valid, or the flow has not eight registers, or it is a loop or an end. -/
def idle (rs : List Int) (op d a b c n : Int) : Prop := ¬ okI op d a b c n ∨ rs.length ≠ 8 ∨ 11 < op
set_option maxRecDepth 100000 in
set_option maxHeartbeats 1000000 in
theorem spec_FlowStep_no (A0 A1 : Option Addr) (c0 c1 n0 n1 : Nat) (rs os : List Int) (op d a b c n : Int) (w : World) (h0 : Ints w A0 rs) (l0 : rs.length = n0) (m0 : n0 ≤ 2000000) (h1 : Ints w A1 os) (l1 : os.length = n1) (m1 : n1 ≤ 2000000) (hid : idle rs op d a b c n) :
    Calls Try.prog 20 #[.agg #[.slice A0 n0 c0, .slice A1 n1 c1], .agg #[.int .i64 op, .int .i64 d, .int .i64 a, .int .i64 b, .int .i64 c, .int .i64 n]] w (Post_Flow rs os w) := by
  have k0 := Bx3F.start w #[.slice A0 n0 c0, .slice A1 n1 c1] #[.int .i64 op, .int .i64 d, .int .i64 a, .int .i64 b, .int .i64 c, .int .i64 n] #[.slice none 0 0, .slice none 0 0]
  have cO := spec_StmtOk op d a b c n
  have hcase : (decide (okI op d a b c n) = false) ∨ (decide (okI op d a b c n) = true ∧ ¬ (n0 : Int) = 8) ∨ (decide (okI op d a b c n) = true ∧ (n0 : Int) = 8 ∧ 11 < op) := by
    unfold idle at hid
    by_cases hok : okI op d a b c n
    · rw [decide_eq_true hok]
      by_cases h8 : (n0 : Int) = 8
      · exact .inr (.inr ⟨rfl, h8, by rcases hid with h | h | h; exact absurd hok h; omega; exact h⟩)
      · exact .inr (.inl ⟨rfl, h8⟩)
    · exact .inl (decide_eq_false hok)
  generalize decide (okI op d a b c n) = r at *
  have L0 := Lib.hid l0
  have L1 := Lib.hid l1
  have i0 := h0.bound
  have i1 := h1.bound
  clear l0 l1 h0 h1 hid
  go_enter Try.func20, Try.ntmps20
  go_wp2_with fail
  generalize hw0 : ((w.alloc (.cells #[.slice A0 n0 c0, .slice A1 n1 c1] 32)).alloc (.cells #[.int .i64 op, .int .i64 d, .int .i64 a, .int .i64 b, .int .i64 c, .int .i64 n] 43)).alloc (.cells #[.slice none 0 0, .slice none 0 0] 32) = w0 at *
  clear hw0
  obtain ⟨x0, -⟩ := blk (i := 0) k0.f rfl
  obtain ⟨x1, -⟩ := blk (i := 1) k0.f rfl
  have s1 := k0.lt
  go_wp2_with fail
  refine (spec_l11Copy A0 A1 c0 c1 n0 n1 rs os w0 ((i0.below k0.low).ints k0.low.size) L0.out m0 ((i1.below k0.low).ints k0.low.size) L1.out m1).mono ?_
  rintro e w1 ⟨B0, B1, q0, q1, d0, d1, rfl, o0, o1, ap, hb1⟩
  obtain rfl : q0 = n0 := by rw [← o0.len, L0.out]
  obtain rfl : q1 = n1 := by rw [← o1.len, L1.out]
  have hb2 := below_alloc w1 (.cells #[.slice B0 q0 d0, .slice B1 q1 d1] 32)
  have b5 := heap_alloc_new w1 (.cells #[.slice B0 q0 d0, .slice B1 q1 d1] 32)
  have t1 := hb1.size
  replace k0 := (k0.next hb1).next hb2
  replace o0 := Lib.hid (o0.below hb2)
  replace o1 := Lib.hid (o1.below hb2)
  have Ap := Lib.hid ap
  clear hb1 x0 x1 ap i0 i1
  go_upto_region 2 with (fail)
  generalize w1.alloc (.cells #[.slice B0 q0 d0, .slice B1 q1 d1] 32) = w2 at *
  have t2 := heap_lt b5
  obtain ⟨x0, -⟩ := blk (i := 0) k0.s rfl
  obtain ⟨x1, -⟩ := blk (i := 1) k0.s rfl
  obtain ⟨x2, -⟩ := blk (i := 2) k0.s rfl
  obtain ⟨x3, -⟩ := blk (i := 3) k0.s rfl
  obtain ⟨x4, -⟩ := blk (i := 4) k0.s rfl
  obtain ⟨x5, -⟩ := blk (i := 5) k0.s rfl
  clear hb2
  rcases hcase with rfl | ⟨rfl, h8⟩ | ⟨rfl, h8, h11⟩
  all_goals
    go_wp2_with fail
    refine (cO w2).mono ?_
    rintro e w3 ⟨rfl, hb3⟩
    have t3 := hb3.size
    replace k0 := k0.next hb3
    replace b5 := heap_below b5 hb3
    replace o0 := Lib.hid (o0.out.below hb3)
    replace o1 := Lib.hid (o1.out.below hb3)
    clear hb3 x0 x1 x2 x3 x4 x5 cO
    obtain ⟨x0, -⟩ := blk (i := 0) k0.f rfl
    obtain ⟨x1, -⟩ := blk (i := 0) k0.s rfl
    obtain ⟨x2, -⟩ := blk (i := 0) b5 rfl
    obtain ⟨x3, -⟩ := blk (i := 1) b5 rfl
    obtain ⟨y0, f0⟩ := blk (i := 0) k0.r rfl
    obtain ⟨y1, f1⟩ := blk (i := 1) k0.r rfl
    have K := Lib.hid k0
    clear k0
    go_wp2_with fail
    exact flow_outS (lo := w0.heap.size) (hi := w1.heap.size) K.out ⟨o0.out.any, o1.out.any, Ap.out⟩ (by omega) (by omega) _ rfl
set_option maxRecDepth 100000 in
set_option maxHeartbeats 2000000 in
theorem spec_FlowStep_yes (A0 A1 : Option Addr) (c0 c1 n1 : Nat) (rs os : List Int) (op d a b c n : Int) (w : World) (h0 : Ints w A0 rs) (l0 : rs.length = 8) (hwf : ∀ z ∈ rs, (Lit.int .i64 z).wf = true) (h1 : Ints w A1 os) (l1 : os.length = n1) (m1 : n1 ≤ 1999999) (hok : okI op d a b c n) (h11 : ¬ 11 < op) :
    Calls Try.prog 20 #[.agg #[.slice A0 8 c0, .slice A1 n1 c1], .agg #[.int .i64 op, .int .i64 d, .int .i64 a, .int .i64 b, .int .i64 c, .int .i64 n]] w (Post_Flow (flowR rs op d a b c n) (flowO rs os op d a b c n) w) := by
  have k0 := Bx3F.start w #[.slice A0 8 c0, .slice A1 n1 c1] #[.int .i64 op, .int .i64 d, .int .i64 a, .int .i64 b, .int .i64 c, .int .i64 n] #[.slice none 0 0, .slice none 0 0]
  have cO := spec_StmtOk op d a b c n
  have cR := spec_ReadsOf op d a b c n
  have hrd : readsOf op d a b c n = readsI op a b c := if_pos hok
  rw [decide_eq_true hok] at cO
  rw [hrd] at cR
  have Hrr := Lib.hid (reads_range hok)
  have Hok := Lib.hid hok
  have L0 := Lib.hid l0
  have L1 := Lib.hid l1
  have Hwf := Lib.hid hwf
  have i0 := h0.bound
  have i1 := h1.bound
  clear l0 l1 h0 h1 hok hrd hwf
  go_enter Try.func20, Try.ntmps20
  go_wp2_with fail
  generalize hw0 : ((w.alloc (.cells #[.slice A0 8 c0, .slice A1 n1 c1] 32)).alloc (.cells #[.int .i64 op, .int .i64 d, .int .i64 a, .int .i64 b, .int .i64 c, .int .i64 n] 43)).alloc (.cells #[.slice none 0 0, .slice none 0 0] 32) = w0 at *
  clear hw0
  obtain ⟨x0, -⟩ := blk (i := 0) k0.f rfl
  obtain ⟨x1, -⟩ := blk (i := 1) k0.f rfl
  have s1 := k0.lt
  go_wp2_with fail
  refine (spec_l11Copy A0 A1 c0 c1 8 n1 rs os w0 ((i0.below k0.low).ints k0.low.size) L0.out (by omega) ((i1.below k0.low).ints k0.low.size) L1.out (by omega)).mono ?_
  rintro e w1 ⟨B0, B1, q0, q1, d0, d1, rfl, o0, o1, ap, hb1⟩
  obtain rfl : q0 = 8 := by rw [← o0.len, L0.out]
  obtain rfl : q1 = n1 := by rw [← o1.len, L1.out]
  have hb2 := below_alloc w1 (.cells #[.slice B0 8 d0, .slice B1 q1 d1] 32)
  have b5 := heap_alloc_new w1 (.cells #[.slice B0 8 d0, .slice B1 q1 d1] 32)
  have t1 := hb1.size
  replace k0 := (k0.next hb1).next hb2
  replace o0 := Lib.hid (o0.below hb2)
  replace o1 := Lib.hid (o1.below hb2)
  have Ap := Lib.hid ap
  clear hb1 x0 x1 ap i1
  go_upto_region 2 with (fail)
  generalize w1.alloc (.cells #[.slice B0 8 d0, .slice B1 q1 d1] 32) = w2 at *
  have t2 := heap_lt b5
  generalize w1.heap.size = g5 at *
  obtain ⟨x0, -⟩ := blk (i := 0) k0.s rfl
  obtain ⟨x1, -⟩ := blk (i := 1) k0.s rfl
  obtain ⟨x2, -⟩ := blk (i := 2) k0.s rfl
  obtain ⟨x3, -⟩ := blk (i := 3) k0.s rfl
  obtain ⟨x4, -⟩ := blk (i := 4) k0.s rfl
  obtain ⟨x5, -⟩ := blk (i := 5) k0.s rfl
  clear hb2
  go_wp2_with fail
  refine (cO w2).mono ?_
  rintro e w3 ⟨rfl, hb3⟩
  have t3 := hb3.size
  replace k0 := k0.next hb3
  replace b5 := heap_below b5 hb3
  replace o0 := Lib.hid (o0.out.below hb3)
  replace o1 := Lib.hid (o1.out.below hb3)
  clear hb3 x0 x1 x2 x3 x4 x5 cO
  obtain ⟨x0, -⟩ := blk (i := 0) k0.s rfl
  obtain ⟨x1, -⟩ := blk (i := 1) k0.s rfl
  obtain ⟨x2, -⟩ := blk (i := 2) k0.s rfl
  obtain ⟨x3, -⟩ := blk (i := 3) k0.s rfl
  obtain ⟨x4, -⟩ := blk (i := 4) k0.s rfl
  obtain ⟨x5, -⟩ := blk (i := 5) k0.s rfl
  obtain ⟨y0, -⟩ := blk (i := 0) k0.f rfl
  go_wp2_with fail
  refine (cR w3).mono ?_
  rintro e w4 ⟨R, m, cr, rfl, hlr, oR, hb4⟩
  have t4 := hb4.size
  replace k0 := k0.next hb4
  replace b5 := heap_below b5 hb4
  replace o0 := Lib.hid (o0.out.below hb4)
  replace o1 := Lib.hid (o1.out.below hb4)
  have iR := oR.ints
  have hm3 : m ≤ 3 := by
    rw [← hlr]
    unfold readsI
    repeat' split
    all_goals simp
  have HL := Lib.hid hlr
  have j0 := (i0.below k0.low).ints k0.low.size
  clear hb4 x0 x1 x2 x3 x4 x5 cR oR hlr i0
  generalize hzz : readsI op a b c = zs at *
  have Hzs := Lib.hid hzz
  clear hzz
  go_wp2_with fail
  go_loopw [6, 8] (fun v i wr => ∃ k : Nat, k ≤ m ∧ i = .int .i64 k ∧ v = .int .i64 (orAll rs (zs.take k) 0) ∧ ∃ nd, wr = w4.drewN nd) (fun _ i _ => m - (intOf i).toNat)
  case atStart => exact ⟨0, Nat.zero_le _, rfl, rfl, 0, rfl⟩
  case round =>
    obtain ⟨k, hk, rfl, rfl, nd, rfl⟩ := hrel
    have hlow : Below w4.heap.size w4 (w4.drewN nd) := below_drewN (Below.refl _ _) nd
    by_cases hlt : k < m
    · have hkl : k < zs.length := by rw [HL.out]; exact hlt
      obtain ⟨g, o, rfl, _, hc⟩ := (iR.bound.below hlow).at_ hkl
      have hr := Hrr.out (zs.getD k 0) (by rw [List.getD_eq_getElem?_getD, List.getElem?_eq_getElem hkl]; exact List.getElem_mem hkl)
      have hstep := Lib.hid (orAll_step (rs := rs) hkl 0)
      generalize hz : zs.getD k 0 = r at hc hr hstep
      obtain ⟨r0, r7⟩ := hr
      obtain ⟨g2, o2, rfl, _, hc2⟩ := (j0.bound.below hlow).at_ (j := r.toNat) (by rw [L0.out]; omega)
      obtain ⟨y0, -⟩ := blk (i := 0) (k0.next hlow).f rfl
      generalize rs.getD r.toNat 0 = y at hc2 hstep
      generalize orAll rs (zs.take k) 0 = acc at *
      have k1 : (0 : Int) ≤ k := by omega
      have k2 : (k : Int) < m := by omega
      have r8 : r < 8 := by omega
      have Hz := Lib.hid hz
      have hwr := Lib.hid (rfl : w4.drewN nd = w4.drewN nd)
      generalize hww : w4.drewN nd = wr at hc hc2 y0 ⊢
      replace hwr := Lib.hid hww
      clear hww hlow k0 b5 o0 o1 iR j0 hkl hz r7
      go_wp2_with fail
      go_quiet (fail)
      go_wp2_with fail
      go_roundw
      case rel => exact ⟨k + 1, by omega, by go_num, by rw [hstep.out], _, by rw [← hwr.out]; exact (World.drewN_drewN ..)⟩
      case measure => simp [intOf]; omega
    · obtain rfl : k = m := by omega
      have hall : zs.take k = zs := List.take_of_length_le (by rw [HL.out]; exact Nat.le_refl _)
      rw [hall]
      replace k0 := k0.next hlow
      replace b5 := heap_below b5 hlow
      replace o0 := o0.out.below hlow
      replace o1 := o1.out.below hlow
      have s4 := hlow.size
      generalize w4.drewN nd = w5 at *
      clear hall hlow iR j0 hk hlt y0
      have hok := Hok.out
      have h1 : 1 ≤ op := (ok_op hok).1
      obtain ⟨gb, rfl, gb0, gb1⟩ := own_addr o0.own (by omega)
      have gtop := o0.top gb rfl
      rcases (show op = 11 ∨ op = 2 ∨ (op ≠ 11 ∧ op ≠ 2) by omega) with rfl | rfl | ⟨n11, n2⟩
      · have ha : 0 ≤ a ∧ a < 8 := by unfold okI isReg at hok; omega
        have hz1 : orAll rs zs 0 = rs.getD a.toNat 0 := by
          rw [← Hzs.out]
          show bits .or .i64 0 (rs.getD a.toNat 0) = _
          refine or_zero (Hwf.out _ ?_)
          have : a.toNat < rs.length := by rw [L0.out]; omega
          rw [List.getD_eq_getElem?_getD, List.getElem?_eq_getElem this]
          exact List.getElem_mem this
        have hR : flowR rs 11 d a b c n = rs := by unfold flowR; rw [if_neg (by omega)]
        have hO : flowO rs os 11 d a b c n = os ++ [orAll rs zs 0] := by unfold flowO; rw [if_pos ⟨hok, L0.out, rfl⟩, hz1]
        generalize orAll rs zs 0 = x at *
        have x0 := (blk (i := 0) k0.s rfl).1
        have z1 := (blk (i := 1) b5 rfl).1
        have O7 := o1.alloc (.cells #[.int .i64 x] 3)
        have O6 := o0.alloc (.cells #[.int .i64 x] 3)
        have K6 := Lib.hid (k0.next (below_alloc w5 (.cells #[.int .i64 x] 3)))
        have B6 := Lib.hid (heap_alloc b5 (.cells #[.int .i64 x] 3))
        have tO := Lib.hid o1.top
        have sB := Lib.hid O7.own.lt
        have HR := Lib.hid hR
        have HO := Lib.hid hO
        clear hR hO hz1 hok ha o0 o1 k0 b5
        go_wp2_with (first | (at_builtin; refine app_list (e' := 3) elemInt rfl _ _ rfl w0.heap.size _ q1 (intVals os) rfl O7.own w5.heap.size 1 1 _ (0, 0) rfl (heap_alloc_new w5 _) rfl (oneCell_i64 [_]) (by omega) (by unfold maxLen; omega) (by omega) (by simp; omega) (w5.heap.size + 1) (by simp) ?_))
        intro g7 cap w7 ho7 hg7 hat7 hl7
        have K8 := K6.out.grown hg7 (fun k e => by have := sB.out k e; omega)
        have B8 := heap_grown B6.out hg7 (fun e => by have := tO.out _ e; omega)
        have hne : g7 ≠ g5 := by
          rcases hat7 with e | e
          · have := tO.out _ e; omega
          · omega
        have O8 := OwnI.keep O6 hg7 Ap.out
        have O9 : OwnI w0.heap.size w7.heap.size w7 (.slice (some ⟨g7, 0, none⟩) (q1 + 1) cap) (q1 + 1) (os ++ [x]) := OwnI.of_own (by rw [show intVals (os ++ [x]) = intVals os ++ [Value.int .i64 x] by simp [intVals]]; exact ho7)
        have KU := K8.far (g := g5) (by omega) 1 (.slice (some ⟨g7, 0, none⟩) (q1 + 1) cap)
        have bU := heap_set (i := 1) B8 (.slice (some ⟨g7, 0, none⟩) (q1 + 1) cap)
        have J0 : Ints (w7.setCell ⟨g5, 1, none⟩ (.slice (some ⟨g7, 0, none⟩) (q1 + 1) cap)) (some ⟨gb, 0, none⟩) (flowR rs 11 d a b c n) := by rw [HR.out]; exact (O8.setFar' (Nat.le_refl _) _).ints
        have J1 : Ints (w7.setCell ⟨g5, 1, none⟩ (.slice (some ⟨g7, 0, none⟩) (q1 + 1) cap)) (some ⟨g7, 0, none⟩) (flowO rs os 11 d a b c n) := by rw [HO.out]; exact Ints.far O9.ints (fun y e => by injection e with e; subst e; exact hne)
        have lO : (flowO rs os 11 d a b c n).length = q1 + 1 := by rw [HO.out, List.length_append, L1.out]; rfl
        obtain ⟨v1, vf1⟩ := blk (i := 1) B8 rfl
        clear ho7 hg7 hat7 hl7 K6 B6 K8 B8 O6 O7 O8 O9 x0 z1 sB tO
        have j0' := Lib.hid J0
        have j1' := Lib.hid J1
        have K := Lib.hid KU
        have LR := Lib.hid (show (flowR rs 11 d a b c n).length = 8 by rw [flowR_length, L0.out])
        have LO := Lib.hid lO
        obtain ⟨x0, -⟩ := blk (i := 0) bU rfl
        obtain ⟨x1, -⟩ := blk (i := 1) bU rfl
        clear J0 J1 KU bU lO
        go_wp2_with fail
        refine (spec_l11Copy _ _ _ _ 8 _ (flowR rs 11 d a b c n) (flowO rs os 11 d a b c n) _ j0'.out LR.out (by omega) j1'.out LO.out (by omega)).mono ?_
        rintro e w9 ⟨C0, C1, e0, e1, f0, f1, rfl, u0, u1, apu, hb9⟩
        have K9 := K.out.next hb9
        have l9 := K.out.lt
        obtain ⟨y0, y0f⟩ := blk (i := 0) K9.r rfl
        obtain ⟨y1, y1f⟩ := blk (i := 1) K9.r rfl
        have KK := Lib.hid K9
        have U0 := Lib.hid u0
        have U1 := Lib.hid u1
        have AP := Lib.hid apu
        clear K9 u0 u1 apu hb9 x0 x1 K j0' j1'
        go_wp2_with fail
        exact flow_outS KK.out ⟨U0.out.any, U1.out.any, AP.out⟩ l9 (Nat.le_refl _) _ rfl
      · have ha : 0 ≤ a ∧ a ≤ 4 := by unfold okI isReg at hok; omega
        obtain ⟨ha0, ha4⟩ := ha
        have hbit := Lib.hid (bit_shl (a := a) (by omega))
        have hd : 0 ≤ d ∧ d < 8 := by unfold okI isReg at hok; omega
        obtain ⟨hd0, hd8⟩ := hd
        have hR : flowR rs 2 d a b c n = rs.set d.toNat (bitP a) := by unfold flowR; rw [if_pos ⟨hok, L0.out, by omega⟩, if_pos rfl]
        have hO : flowO rs os 2 d a b c n = os := by unfold flowO; rw [if_neg (by omega)]
        have HR := Lib.hid hR
        have HO := Lib.hid hO
        have x00 := (blk (i := 0) k0.s rfl).1
        have x01 := (blk (i := 1) k0.s rfl).1
        have x02 := (blk (i := 2) k0.s rfl).1
        have z0 := (blk (i := 0) b5 rfl).1
        obtain ⟨q8, f8⟩ := o0.at_ (j := d.toNat) (by omega)
        have KU := k0.far (g := gb) (by omega) d.toNat (.int .i64 (bitP a))
        have bU := heap_far b5 (p := ⟨gb, d.toNat, none⟩) (by simp; omega) (.int .i64 (bitP a))
        have J0 : Ints (w5.setCell ⟨gb, d.toNat, none⟩ (.int .i64 (bitP a))) (some ⟨gb, 0, none⟩) (flowR rs 2 d a b c n) := by rw [HR.out]; exact (o0.set d.toNat (bitP a)).ints
        have J1 : Ints (w5.setCell ⟨gb, d.toNat, none⟩ (.int .i64 (bitP a))) B1 (flowO rs os 2 d a b c n) := by rw [HO.out]; exact (o1.other o0 (Ap.out.symm) d.toNat (bitP a)).ints
        have lO : (flowO rs os 2 d a b c n).length = q1 := by rw [HO.out, L1.out]
        clear hR hO hok o0 o1 k0 b5
        go_upto_region 16 with (fail)
        rw [hbit.out]
        have j0' := Lib.hid J0
        have j1' := Lib.hid J1
        have K := Lib.hid KU
        have LR := Lib.hid (show (flowR rs 2 d a b c n).length = 8 by rw [flowR_length, L0.out])
        have LO := Lib.hid lO
        obtain ⟨x0, -⟩ := blk (i := 0) bU rfl
        obtain ⟨x1, -⟩ := blk (i := 1) bU rfl
        clear J0 J1 KU bU lO
        go_wp2_with fail
        refine (spec_l11Copy _ _ _ _ 8 _ (flowR rs 2 d a b c n) (flowO rs os 2 d a b c n) _ j0'.out LR.out (by omega) j1'.out LO.out (by omega)).mono ?_
        rintro e w9 ⟨C0, C1, e0, e1, f0, f1, rfl, u0, u1, apu, hb9⟩
        have K9 := K.out.next hb9
        have l9 := K.out.lt
        obtain ⟨y0, y0f⟩ := blk (i := 0) K9.r rfl
        obtain ⟨y1, y1f⟩ := blk (i := 1) K9.r rfl
        have KK := Lib.hid K9
        have U0 := Lib.hid u0
        have U1 := Lib.hid u1
        have AP := Lib.hid apu
        clear K9 u0 u1 apu hb9 x0 x1 K j0' j1'
        go_wp2_with fail
        exact flow_outS KK.out ⟨U0.out.any, U1.out.any, AP.out⟩ l9 (Nat.le_refl _) _ rfl
      · have t11 : (op == 11) = false := beq_eq_false_iff_ne.2 n11
        have t2 : (op == 2) = false := beq_eq_false_iff_ne.2 n2
        have hd : 0 ≤ d ∧ d < 8 := by unfold okI isReg at hok; omega
        obtain ⟨hd0, hd8⟩ := hd
        have hR : flowR rs op d a b c n = rs.set d.toNat (orAll rs zs 0) := by unfold flowR; rw [if_pos ⟨hok, L0.out, by omega⟩, if_neg n2, Hzs.out]
        have hO : flowO rs os op d a b c n = os := by unfold flowO; rw [if_neg (by omega)]
        have HR := Lib.hid hR
        have HO := Lib.hid hO
        have x00 := (blk (i := 0) k0.s rfl).1
        have x01 := (blk (i := 1) k0.s rfl).1
        have x02 := (blk (i := 2) k0.s rfl).1
        have z0 := (blk (i := 0) b5 rfl).1
        obtain ⟨q8, f8⟩ := o0.at_ (j := d.toNat) (by omega)
        have KU := k0.far (g := gb) (by omega) d.toNat (.int .i64 (orAll rs zs 0))
        have bU := heap_far b5 (p := ⟨gb, d.toNat, none⟩) (by simp; omega) (.int .i64 (orAll rs zs 0))
        have J0 : Ints (w5.setCell ⟨gb, d.toNat, none⟩ (.int .i64 (orAll rs zs 0))) (some ⟨gb, 0, none⟩) (flowR rs op d a b c n) := by rw [HR.out]; exact (o0.set d.toNat (orAll rs zs 0)).ints
        have J1 : Ints (w5.setCell ⟨gb, d.toNat, none⟩ (.int .i64 (orAll rs zs 0))) B1 (flowO rs os op d a b c n) := by rw [HO.out]; exact (o1.other o0 (Ap.out.symm) d.toNat (orAll rs zs 0)).ints
        have lO : (flowO rs os op d a b c n).length = q1 := by rw [HO.out, L1.out]
        clear hR hO hok o0 o1 k0 b5 n11 n2
        generalize orAll rs zs 0 = acc at *
        have j0' := Lib.hid J0
        have j1' := Lib.hid J1
        have K := Lib.hid KU
        have LR := Lib.hid (show (flowR rs op d a b c n).length = 8 by rw [flowR_length, L0.out])
        have LO := Lib.hid lO
        obtain ⟨x0, -⟩ := blk (i := 0) bU rfl
        obtain ⟨x1, -⟩ := blk (i := 1) bU rfl
        clear J0 J1 KU bU lO
        go_wp2_with fail
        refine (spec_l11Copy _ _ _ _ 8 _ (flowR rs op d a b c n) (flowO rs os op d a b c n) _ j0'.out LR.out (by omega) j1'.out LO.out (by omega)).mono ?_
        rintro e w9 ⟨C0, C1, e0, e1, f0, f1, rfl, u0, u1, apu, hb9⟩
        have K9 := K.out.next hb9
        have l9 := K.out.lt
        obtain ⟨y0, y0f⟩ := blk (i := 0) K9.r rfl
        obtain ⟨y1, y1f⟩ := blk (i := 1) K9.r rfl
        have KK := Lib.hid K9
        have U0 := Lib.hid u0
        have U1 := Lib.hid u1
        have AP := Lib.hid apu
        clear K9 u0 u1 apu hb9 x0 x1 K j0' j1'
        go_wp2_with fail
        exact flow_outS KK.out ⟨U0.out.any, U1.out.any, AP.out⟩ l9 (Nat.le_refl _) _ rfl
end Go.Proofs.Ytklmhkckhdmelaa
