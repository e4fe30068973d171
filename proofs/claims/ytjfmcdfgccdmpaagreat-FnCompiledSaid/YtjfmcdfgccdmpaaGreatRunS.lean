/- StepState: the model's. No condition. -/
import Derived.Test.YtjfmcdfgccdmpaaGreatProg
import Derived.Test.YtjfmcdfgccdmpaaGreatR2
import Derived.Test.YtjfmcdfgccdmpaaGreatStmtK
import Derived.Deep.CutBlock
namespace Go.Proofs.YtjfmcdfgccdmpaaGreat
open Go Go.RowKit
/-- The result is stored and handed back. -/
theorem state_outS {w wr : World} {fs ss : Array Value} {u v : Value} {A0 A1 : Option Addr} {n0 n1 c0 c1 lo hi : Nat} {z0 z1 : List Int} (h : Bx3S w wr fs ss #[u, v]) (o : OwnState lo hi wr (.slice A0 n0 c0) (.slice A1 n1 c1) n0 n1 z0 z1)
    (hlo : w.heap.size + 2 < lo) (hhi : hi ≤ wr.heap.size) (tmps : Array Value) (ht : tmps.getD 6 undef = .pointer (some ⟨w.heap.size + 2, 0, none⟩)) :
    bodyPost Tryz.prog Tryz.f23 (Post_State z0 z1 w) Exit.ret { tmps := tmps, defers := [] } ((wr.setCell ⟨w.heap.size + 2, 0, none⟩ (.slice A0 n0 c0)).setCell ⟨w.heap.size + 2, 1, none⟩ (.slice A1 n1 c1)) := by
  have b2 := heap_set (i := 1) (heap_set (i := 0) h.r (.slice A0 n0 c0)) (.slice A1 n1 c1)
  have o2 := (o.setFar (g := w.heap.size + 2) (i := 0) hlo (.slice A0 n0 c0)).setFar (g := w.heap.size + 2) (i := 1) hlo (.slice A1 n1 c1)
  refine bodyPost_ret (results_cell_row (P := Tryz.prog) rfl _ _ (w.heap.size + 2) 60 _ (0, 0) _ ht b2 Tryz.underlying60 rfl (by kernel_rfl)) rfl ?_
  exact ⟨_, _, _, _, _, _, rfl, o2.wide (by omega) (by simpa using hhi), (h.low.setCell (by simp) _).setCell (by simp) _⟩

set_option maxRecDepth 100000 in
set_option maxHeartbeats 8000000 in
theorem spec_StepState (A0 A1 A2 : Option Addr) (c0 c1 n0 n1 n2 c2 : Nat) (rs os : List Int) (I : List (List Int)) (op d a b c n : Int) (w : World) (h0 : Ints w A0 rs) (l0 : rs.length = n0) (m0 : n0 ≤ 1999999) (h1 : Ints w A1 os) (l1 : os.length = n1) (m1 : n1 ≤ 1999999) (h2 : Rows w.heap.size w A2 I) (l2 : I.length = n2) (m2 : n2 ≤ 1999999) :
    Calls Tryz.prog 23 #[.agg #[.slice A0 n0 c0, .slice A1 n1 c1], .agg #[.int .i64 op, .int .i64 d, .int .i64 a, .int .i64 b, .int .i64 c, .int .i64 n], .slice A2 n2 c2] w (Post_State (stepR rs os I op d a b c n) (stepO rs os I op d a b c n) w) := by
  have k0 := Bx3S.start w #[.slice A0 n0 c0, .slice A1 n1 c1] #[.int .i64 op, .int .i64 d, .int .i64 a, .int .i64 b, .int .i64 c, .int .i64 n] #[.slice none 0 0, .slice none 0 0]
  have L0 := Lib.hid l0
  have L1 := Lib.hid l1
  have L2 := Lib.hid l2
  have M0 := Lib.hid m0
  have M1 := Lib.hid m1
  have M2 := Lib.hid m2
  have i0 := h0.bound
  have i1 := h1.bound
  clear l0 l1 l2 h0 h1 m0 m1 m2
  go_enter Tryz.func23, Tryz.ntmps23
  go_wp2_with fail
  generalize hw0 : ((w.alloc (.cells #[.slice A0 n0 c0, .slice A1 n1 c1] 60)).alloc (.cells #[.int .i64 op, .int .i64 d, .int .i64 a, .int .i64 b, .int .i64 c, .int .i64 n] 49)).alloc (.cells #[.slice none 0 0, .slice none 0 0] 60) = w0 at *
  clear hw0
  obtain ⟨x0, _⟩ := blk (i := 0) k0.f rfl
  obtain ⟨x1, _⟩ := blk (i := 1) k0.f rfl
  have j0 := (i0.below k0.low).ints k0.low.size
  have j1 := (i1.below k0.low).ints k0.low.size
  have s1 := k0.lt
  go_wp2_with fail
  refine (spec_l12Copy A0 A1 c0 c1 n0 n1 rs os w0 j0 L0.out (by have := M0.out; omega) j1 L1.out (by have := M1.out; omega)).mono ?_
  rintro e w1 ⟨B0, B1, b0, b1, d0, d1, rfl, o0, o1, ap, hb1⟩
  obtain rfl : b0 = n0 := by rw [← o0.len, L0.out]
  obtain rfl : b1 = n1 := by rw [← o1.len, L1.out]
  replace k0 := k0.next hb1
  have af := Aft.last hb1 o0 o1 (Nat.le_refl _) (Nat.le_refl _) (Nat.le_refl _) (Nat.le_refl _) ap
  replace k0 := k0.next (below_alloc w1 (.cells #[.slice B0 b0 d0, .slice B1 b1 d1] 60))
  have s2 := hb1.size
  clear x0 x1 j0 j1 o0 o1 ap hb1
  go_upto_region 2 with (fail)
  generalize hg : w1.heap.size = g at *
  generalize hwc : w1.alloc (.cells #[.slice B0 b0 d0, .slice B1 b1 d1] 60) = wc at *
  clear hwc hg
  have gl := af.ge
  by_cases hst : stOk rs os
  case neg =>
    have HR : Hid (stepR rs os I op d a b c n = rs) := Lib.hid (stepR_no (fun e => hst e.1.2.1))
    have HO : Hid (stepO rs os I op d a b c n = os) := Lib.hid (stepO_no (fun e => hst e.1.2.1))
    obtain ⟨x0, _⟩ := blk (i := 0) k0.f rfl
    obtain ⟨x1, _⟩ := blk (i := 1) k0.f rfl
    have j0 := (i0.below k0.low).ints k0.low.size
    have j1 := (i1.below k0.low).ints k0.low.size
    have cS := spec_StateOk A0 b0 c0 rs A1 b1 c1 os wc j0 L0.out (by have := M0.out; omega) j1 L1.out (by have := M1.out; omega)
    rw [decide_eq_false hst] at cS
    clear j0 j1
    go_wp2_with fail
    refine cS.mono ?_
    rintro e w3 ⟨rfl, hb3⟩
    have t3 := hb3.size
    replace k0 := k0.next hb3
    replace af := af.next hb3
    clear hb3 x0 x1 cS
    obtain ⟨y0, _⟩ := blk (i := 0) af.box rfl
    obtain ⟨y1, _⟩ := blk (i := 1) af.box rfl
    obtain ⟨z0, f0⟩ := blk (i := 0) k0.r rfl
    obtain ⟨z1, f1⟩ := blk (i := 1) k0.r rfl
    have K := Lib.hid k0
    have AF := Lib.hid af
    clear k0 af
    go_wp2_with fail
    rw [HR.out, HO.out]
    exact state_outS (lo := w0.heap.size) K.out ⟨AF.out.o0.any, AF.out.o1.any, AF.out.ap⟩ (by omega) (Nat.le_refl _) _ rfl
  have l8 := hst.1
  rw [L0.out] at l8
  subst l8
  by_cases hok : okI op d a b c n
  case neg =>
    have HR : Hid (stepR rs os I op d a b c n = rs) := Lib.hid (stepR_no (fun e => hok e.1.1))
    have HO : Hid (stepO rs os I op d a b c n = os) := Lib.hid (stepO_no (fun e => hok e.1.1))
    obtain ⟨x0, _⟩ := blk (i := 0) k0.f rfl
    obtain ⟨x1, _⟩ := blk (i := 1) k0.f rfl
    have j0 := (i0.below k0.low).ints k0.low.size
    have j1 := (i1.below k0.low).ints k0.low.size
    have cS := spec_StateOk A0 8 c0 rs A1 b1 c1 os wc j0 L0.out (by have := M0.out; omega) j1 L1.out (by have := M1.out; omega)
    rw [decide_eq_true hst] at cS
    clear j0 j1
    go_wp2_with fail
    refine cS.mono ?_
    rintro e w3 ⟨rfl, hb3⟩
    have t3 := hb3.size
    replace k0 := k0.next hb3
    replace af := af.next hb3
    clear hb3 x0 x1 cS
    obtain ⟨x0, _⟩ := blk (i := 0) k0.s rfl
    obtain ⟨x1, _⟩ := blk (i := 1) k0.s rfl
    obtain ⟨x2, _⟩ := blk (i := 2) k0.s rfl
    obtain ⟨x3, _⟩ := blk (i := 3) k0.s rfl
    obtain ⟨x4, _⟩ := blk (i := 4) k0.s rfl
    obtain ⟨x5, _⟩ := blk (i := 5) k0.s rfl
    have cN := spec_StmtOk op d a b c n w3
    rw [decide_eq_false hok] at cN
    go_wp2_with fail
    refine cN.mono ?_
    rintro e w4 ⟨rfl, hb4⟩
    have t4 := hb4.size
    replace k0 := k0.next hb4
    replace af := af.next hb4
    clear hb4 x0 x1 x2 x3 x4 x5 cN
    obtain ⟨y0, _⟩ := blk (i := 0) af.box rfl
    obtain ⟨y1, _⟩ := blk (i := 1) af.box rfl
    obtain ⟨z0, f0⟩ := blk (i := 0) k0.r rfl
    obtain ⟨z1, f1⟩ := blk (i := 1) k0.r rfl
    have K := Lib.hid k0
    have AF := Lib.hid af
    clear k0 af
    go_wp2_with fail
    rw [HR.out, HO.out]
    exact state_outS (lo := w0.heap.size) K.out ⟨AF.out.o0.any, AF.out.o1.any, AF.out.ap⟩ (by omega) (Nat.le_refl _) _ rfl
  by_cases h11 : op ≤ 11
  case neg =>
    have h12 : 11 < op := by omega
    have HR : Hid (stepR rs os I op d a b c n = rs) := Lib.hid (stepR_no (fun e => by have := e.2; omega))
    have HO : Hid (stepO rs os I op d a b c n = os) := Lib.hid (stepO_no (fun e => by have := e.2; omega))
    obtain ⟨x0, _⟩ := blk (i := 0) k0.f rfl
    obtain ⟨x1, _⟩ := blk (i := 1) k0.f rfl
    have j0 := (i0.below k0.low).ints k0.low.size
    have j1 := (i1.below k0.low).ints k0.low.size
    have cS := spec_StateOk A0 8 c0 rs A1 b1 c1 os wc j0 L0.out (by have := M0.out; omega) j1 L1.out (by have := M1.out; omega)
    rw [decide_eq_true hst] at cS
    clear j0 j1
    go_wp2_with fail
    refine cS.mono ?_
    rintro e w3 ⟨rfl, hb3⟩
    have t3 := hb3.size
    replace k0 := k0.next hb3
    replace af := af.next hb3
    clear hb3 x0 x1 cS
    obtain ⟨x0, _⟩ := blk (i := 0) k0.s rfl
    obtain ⟨x1, _⟩ := blk (i := 1) k0.s rfl
    obtain ⟨x2, _⟩ := blk (i := 2) k0.s rfl
    obtain ⟨x3, _⟩ := blk (i := 3) k0.s rfl
    obtain ⟨x4, _⟩ := blk (i := 4) k0.s rfl
    obtain ⟨x5, _⟩ := blk (i := 5) k0.s rfl
    have cN := spec_StmtOk op d a b c n w3
    rw [decide_eq_true hok] at cN
    go_wp2_with fail
    refine cN.mono ?_
    rintro e w4 ⟨rfl, hb4⟩
    have t4 := hb4.size
    replace k0 := k0.next hb4
    replace af := af.next hb4
    clear hb4 x0 x1 x2 x3 x4 x5 cN
    obtain ⟨x0, _⟩ := blk (i := 0) k0.s rfl
    obtain ⟨y0, _⟩ := blk (i := 0) af.box rfl
    obtain ⟨y1, _⟩ := blk (i := 1) af.box rfl
    obtain ⟨z0, f0⟩ := blk (i := 0) k0.r rfl
    obtain ⟨z1, f1⟩ := blk (i := 1) k0.r rfl
    have K := Lib.hid k0
    have AF := Lib.hid af
    clear k0 af
    go_wp2_with fail
    rw [HR.out, HO.out]
    exact state_outS (lo := w0.heap.size) K.out ⟨AF.out.o0.any, AF.out.o1.any, AF.out.ap⟩ (by omega) (Nat.le_refl _) _ rfl
  by_cases hin : insOk I
  case neg =>
    have HR : Hid (stepR rs os I op d a b c n = rs) := Lib.hid (stepR_no (fun e => hin e.1.2.2))
    have HO : Hid (stepO rs os I op d a b c n = os) := Lib.hid (stepO_no (fun e => hin e.1.2.2))
    obtain ⟨x0, _⟩ := blk (i := 0) k0.f rfl
    obtain ⟨x1, _⟩ := blk (i := 1) k0.f rfl
    have j0 := (i0.below k0.low).ints k0.low.size
    have j1 := (i1.below k0.low).ints k0.low.size
    have cS := spec_StateOk A0 8 c0 rs A1 b1 c1 os wc j0 L0.out (by have := M0.out; omega) j1 L1.out (by have := M1.out; omega)
    rw [decide_eq_true hst] at cS
    clear j0 j1
    go_wp2_with fail
    refine cS.mono ?_
    rintro e w3 ⟨rfl, hb3⟩
    have t3 := hb3.size
    replace k0 := k0.next hb3
    replace af := af.next hb3
    clear hb3 x0 x1 cS
    obtain ⟨x0, _⟩ := blk (i := 0) k0.s rfl
    obtain ⟨x1, _⟩ := blk (i := 1) k0.s rfl
    obtain ⟨x2, _⟩ := blk (i := 2) k0.s rfl
    obtain ⟨x3, _⟩ := blk (i := 3) k0.s rfl
    obtain ⟨x4, _⟩ := blk (i := 4) k0.s rfl
    obtain ⟨x5, _⟩ := blk (i := 5) k0.s rfl
    have cN := spec_StmtOk op d a b c n w3
    rw [decide_eq_true hok] at cN
    go_wp2_with fail
    refine cN.mono ?_
    rintro e w4 ⟨rfl, hb4⟩
    have t4 := hb4.size
    replace k0 := k0.next hb4
    replace af := af.next hb4
    clear hb4 x0 x1 x2 x3 x4 x5 cN
    obtain ⟨x0, _⟩ := blk (i := 0) k0.s rfl
    have cI := spec_InputsOk A2 n2 c2 I false (decide_eq_false hin) w4 (h2.up k0.low k0.low.size) L2.out (by have := M2.out; omega)
    go_wp2_with fail
    refine cI.mono ?_
    rintro e w5 ⟨rfl, rfl⟩
    clear cI x0
    obtain ⟨y0, _⟩ := blk (i := 0) af.box rfl
    obtain ⟨y1, _⟩ := blk (i := 1) af.box rfl
    obtain ⟨z0, f0⟩ := blk (i := 0) k0.r rfl
    obtain ⟨z1, f1⟩ := blk (i := 1) k0.r rfl
    have K := Lib.hid k0
    have AF := Lib.hid af
    clear k0 af
    go_wp2_with fail
    rw [HR.out, HO.out]
    exact state_outS (lo := w0.heap.size) K.out ⟨AF.out.o0.any, AF.out.o1.any, AF.out.ap⟩ (by omega) (Nat.le_refl _) _ rfl
  have hgo : goes rs os I op d a b c n := ⟨hok, hst, hin⟩
  obtain ⟨x0, _⟩ := blk (i := 0) k0.f rfl
  obtain ⟨x1, _⟩ := blk (i := 1) k0.f rfl
  have j0 := (i0.below k0.low).ints k0.low.size
  have j1 := (i1.below k0.low).ints k0.low.size
  have cS := spec_StateOk A0 8 c0 rs A1 b1 c1 os wc j0 L0.out (by have := M0.out; omega) j1 L1.out (by have := M1.out; omega)
  rw [decide_eq_true hst] at cS
  clear j0 j1
  go_wp2_with fail
  refine cS.mono ?_
  rintro e w3 ⟨rfl, hb3⟩
  have t3 := hb3.size
  replace k0 := k0.next hb3
  replace af := af.next hb3
  clear hb3 x0 x1 cS
  obtain ⟨x0, _⟩ := blk (i := 0) k0.s rfl
  obtain ⟨x1, _⟩ := blk (i := 1) k0.s rfl
  obtain ⟨x2, _⟩ := blk (i := 2) k0.s rfl
  obtain ⟨x3, _⟩ := blk (i := 3) k0.s rfl
  obtain ⟨x4, _⟩ := blk (i := 4) k0.s rfl
  obtain ⟨x5, _⟩ := blk (i := 5) k0.s rfl
  have cN := spec_StmtOk op d a b c n w3
  rw [decide_eq_true hok] at cN
  go_wp2_with fail
  refine cN.mono ?_
  rintro e w4 ⟨rfl, hb4⟩
  have t4 := hb4.size
  replace k0 := k0.next hb4
  replace af := af.next hb4
  clear hb4 x0 x1 x2 x3 x4 x5 cN
  obtain ⟨x0, _⟩ := blk (i := 0) k0.s rfl
  have cI := spec_InputsOk A2 n2 c2 I true (decide_eq_true hin) w4 (h2.up k0.low k0.low.size) L2.out (by have := M2.out; omega)
  go_wp2_with fail
  refine cI.mono ?_
  rintro e w5 ⟨rfl, rfl⟩
  clear cI x0
  obtain ⟨x0, _⟩ := blk (i := 0) k0.s rfl
  go_upto_block 0 with (fail)
  clear x0
  go_cut [7] (fun p wx => ∃ (C0 C1 : Option Addr) (e0 e1 q1 : Nat), p = .pointer (some ⟨g, 0, none⟩) ∧ Bx3S w wx #[.slice A0 8 c0, .slice A1 b1 c1] #[.int .i64 op, .int .i64 d, .int .i64 a, .int .i64 b, .int .i64 c, .int .i64 n] #[.slice none 0 0, .slice none 0 0] ∧ Aft w0 wx g (.slice C0 8 e0) (.slice C1 q1 e1) 8 q1 (stepR rs os I op d a b c n) (stepO rs os I op d a b c n))
  case rest =>
    obtain ⟨C0, C1, e0, e1, q1, rfl, k9, af9⟩ := hcut
    have ls9 := af9.low.size
    clear k0 af
    obtain ⟨y0, _⟩ := blk (i := 0) af9.box rfl
    obtain ⟨y1, _⟩ := blk (i := 1) af9.box rfl
    have hq1 : q1 ≤ 2000000 := by
      have h1 := af9.o1.len
      have h2 := stepO_length (rs := rs) (os := os) (I := I) (op := op) (d := d) (a := a) (b := b) (c := c) (n := n)
      have h3 := L1.out
      have h4 := M1.out
      omega
    have j0 := af9.o0.ints
    have j1 := af9.o1.ints
    have e0' := af9.o0.len
    have e1' := af9.o1.len
    have sl := k9.lt
    have K9 := Lib.hid k9
    have HL0 := Lib.hid e0'
    have HL1 := Lib.hid e1'
    clear k9 af9 e0' e1'
    generalize stepR rs os I op d a b c n = rs' at *
    generalize stepO rs os I op d a b c n = os' at *
    go_wp2_with fail
    refine (spec_l12Copy C0 C1 e0 e1 8 q1 rs' os' _ j0 HL0.out (by omega) j1 HL1.out hq1).mono ?_
    rintro e w9 ⟨D0, D1, f0, f1, t0, t1, rfl, u0, u1, apu, hb9⟩
    have k10 := K9.out.next hb9
    obtain ⟨z0, zf0⟩ := blk (i := 0) k10.r rfl
    obtain ⟨z1, zf1⟩ := blk (i := 1) k10.r rfl
    have KK := Lib.hid k10
    have U0 := Lib.hid u0
    have U1 := Lib.hid u1
    have AP := Lib.hid apu
    clear k10 u0 u1 apu hb9 y0 y1 K9 j0 j1
    go_wp2_with fail
    exact state_outS KK.out ⟨U0.out.any, U1.out.any, AP.out⟩ (by omega) (Nat.le_refl _) _ rfl
  case first =>
    have h7 : op = 1 ∨ op = 2 ∨ (3 ≤ op ∧ op ≤ 9) ∨ op = 10 ∨ op = 11 := by unfold okI at hok; omega
    rcases h7 with hop | hop | hop | hop | hop
    · subst hop
      have HR : Hid (stepR rs os I 1 d a b c n = rs.set d.toNat n) := Lib.hid (by rw [stepR_yes hgo (by omega)]; rfl)
      have HO : Hid (stepO rs os I 1 d a b c n = os) := Lib.hid (stepO_no (fun e => by have := e.2; omega))
      have hd : 0 ≤ d ∧ d < 8 := by unfold okI isReg at hok; omega
      obtain ⟨hd0, hd8⟩ := hd
      clear hgo hok
      obtain ⟨bb, rfl, hbb, hbt⟩ := own_addr af.o0.own (by omega)
      have hgb : g ≠ bb := fun e => af.f0 (by rw [e]; rfl)
      have hgt := af.lt
      obtain ⟨r0, fr0⟩ := af.o0.cellAt (j := d.toNat) (by omega)
      obtain ⟨y0, _⟩ := blk (i := 0) af.box rfl
      obtain ⟨x0, _⟩ := blk (i := 0) k0.s rfl
      obtain ⟨x1, _⟩ := blk (i := 1) k0.s rfl
      obtain ⟨x2, _⟩ := blk (i := 2) k0.s rfl
      obtain ⟨x3, _⟩ := blk (i := 3) k0.s rfl
      obtain ⟨x4, _⟩ := blk (i := 4) k0.s rfl
      obtain ⟨x5, _⟩ := blk (i := 5) k0.s rfl
      have af2 := af.set (j := d.toNat) hbb n
      have k2 := k0.far (g := bb) (by omega) d.toNat (.int .i64 n)
      go_upto_region 7 with (fail)
      go_wp2_with fail
      generalize w4.setCell ⟨bb, d.toNat, none⟩ (.int .i64 n) = w6 at *
      replace k0 := k2
      replace af := af2
      clear k2 af2
      go_meet
      exact ⟨_, _, _, _, _, rfl, k0, by rw [HR.out, HO.out]; exact af⟩
    · subst hop
      obtain ⟨x, hx⟩ : ∃ x, (I.getD a.toNat []).getD n.toNat 0 = x := ⟨_, rfl⟩
      have HR : Hid (stepR rs os I 2 d a b c n = rs.set d.toNat x) := Lib.hid (by rw [stepR_yes hgo (by omega), ← hx]; rfl)
      have HO : Hid (stepO rs os I 2 d a b c n = os) := Lib.hid (stepO_no (fun e => by have := e.2; omega))
      have hd : 0 ≤ d ∧ d < 8 ∧ 0 ≤ a ∧ a < 5 ∧ 0 ≤ n ∧ n < 4 := by unfold okI isReg at hok; omega
      obtain ⟨hd0, hd8, ha0, ha5, hn0, hn4⟩ := hd
      have hrow := (hin.row (k := a.toNat) (by omega)).1
      have hI5 := hin.1
      rw [L2.out] at hI5
      subst hI5
      clear hgo hok
      obtain ⟨bb, rfl, hbb, hbt⟩ := own_addr af.o0.own (by omega)
      have hgb : g ≠ bb := fun e => af.f0 (by rw [e]; rfl)
      have hgt := af.lt
      obtain ⟨r0, fr0⟩ := af.o0.cellAt (j := d.toNat) (by omega)
      obtain ⟨y0, _⟩ := blk (i := 0) af.box rfl
      obtain ⟨x0, _⟩ := blk (i := 0) k0.s rfl
      obtain ⟨x1, _⟩ := blk (i := 1) k0.s rfl
      obtain ⟨x2, _⟩ := blk (i := 2) k0.s rfl
      obtain ⟨x3, _⟩ := blk (i := 3) k0.s rfl
      obtain ⟨x4, _⟩ := blk (i := 4) k0.s rfl
      obtain ⟨x5, _⟩ := blk (i := 5) k0.s rfl
      obtain ⟨bI, oI, Aj, cj, eA, _, u0, ir⟩ := (h2.below k0.low).at_ (j := a.toNat) (by rw [L2.out]; omega)
      subst eA
      rw [hrow] at u0
      obtain ⟨bR, oR, eA, _, u1⟩ := ir.at_ (j := n.toNat) (by rw [hrow]; omega)
      subst eA
      rw [hx] at u1
      have af2 := (af.set (j := d.toNat) hbb x).drew
      have k2 := (k0.far (g := bb) (by omega) d.toNat (.int .i64 x)).drew
      clear ir hrow h2 hx
      go_wp2_with fail
      go_region
      generalize (w4.setCell ⟨bb, d.toNat, none⟩ (.int .i64 x)).drew = w6 at *
      clear x0 x1 x2 x3 x4 x5 u0 u1 r0 fr0 y0 k0 af
      replace k0 := k2
      replace af := af2
      clear k2 af2
      go_wp2_with fail
      go_meet
      exact ⟨_, _, _, _, _, rfl, k0, by rw [HR.out, HO.out]; exact af⟩
    · have hop2 := hop
      have hv : valI rs I op a b c n = operI op (rs.getD a.toNat 0) (rs.getD b.toNat 0) := by unfold valI; rw [if_neg (by omega), if_neg (by omega), if_neg (by omega)]
      have hr1 : stepR rs os I op d a b c n = rs.set d.toNat (operI op (rs.getD a.toNat 0) (rs.getD b.toNat 0)) := by rw [stepR_yes hgo (by omega), hv]
      have HO : Hid (stepO rs os I op d a b c n = os) := Lib.hid (stepO_no (fun e => by have := e.2; omega))
      have hd : 0 ≤ d ∧ d < 8 ∧ 0 ≤ a ∧ a < 8 ∧ 0 ≤ b ∧ b < 8 := by unfold okI isReg at hok; omega
      obtain ⟨hd0, hd8, ha0, ha8, hb0, hb8⟩ := hd
      have e1 : (op == 1) = false := beq_eq_false_iff_ne.2 (by omega)
      have e2 : (op == 2) = false := beq_eq_false_iff_ne.2 (by omega)
      have e10 : (op == 10) = false := beq_eq_false_iff_ne.2 (by omega)
      have e11 : (op == 11) = false := beq_eq_false_iff_ne.2 (by omega)
      clear hgo hok hv hop
      obtain ⟨bb, rfl, hbb, hbt⟩ := own_addr af.o0.own (by omega)
      have hgb : g ≠ bb := fun e => af.f0 (by rw [e]; rfl)
      have hgt := af.lt
      obtain ⟨r0, fr0⟩ := af.o0.cellAt (j := d.toNat) (by omega)
      obtain ⟨y0, _⟩ := blk (i := 0) af.box rfl
      obtain ⟨x0, _⟩ := blk (i := 0) k0.s rfl
      obtain ⟨x1, _⟩ := blk (i := 1) k0.s rfl
      obtain ⟨x2, _⟩ := blk (i := 2) k0.s rfl
      obtain ⟨x3, _⟩ := blk (i := 3) k0.s rfl
      obtain ⟨x4, _⟩ := blk (i := 4) k0.s rfl
      obtain ⟨x5, _⟩ := blk (i := 5) k0.s rfl
      obtain ⟨z0, _⟩ := blk (i := 0) k0.f rfl
      obtain ⟨bA, oA, eA, hbA, u0⟩ := (i0.below k0.low).at_ (j := a.toNat) (by rw [L0.out]; omega)
      obtain ⟨bA', oA', eA', _, u1⟩ := (i0.below k0.low).at_ (j := b.toNat) (by rw [L0.out]; omega)
      subst eA
      injection eA' with eA'
      injection eA' with e1 e2
      subst e1 e2
      generalize rs.getD a.toNat 0 = ra at *
      generalize rs.getD b.toNat 0 = rb at *
      have cO := spec_Operate op ra rb
      obtain ⟨x, hx⟩ : ∃ x, operI op ra rb = x := ⟨_, rfl⟩
      rw [hx] at cO hr1
      have HR := Lib.hid hr1
      have af2 := (af.set (j := d.toNat) hbb x).drew
      have k2 := (k0.far (g := bb) (by omega) d.toNat (.int .i64 x)).drew
      clear hx hr1
      go_wp2_with fail
      go_region_held3 (fun w' => w'.cell? ⟨g, 0, none⟩ = some (.slice (some ⟨bb, 0, none⟩) 8 d0) ∧ w'.cell? ⟨w.heap.size + 1, 0, none⟩ = some (.int .i64 op) ∧ w'.cell? ⟨w.heap.size + 1, 1, none⟩ = some (.int .i64 d) ∧ w'.cell? ⟨w.heap.size + 1, 2, none⟩ = some (.int .i64 a) ∧ w'.cell? ⟨w.heap.size + 1, 3, none⟩ = some (.int .i64 b) ∧ w'.cell? ⟨w.heap.size, 0, none⟩ = some (.slice (some ⟨bA, oA, none⟩) 8 c0) ∧ w'.cell? ⟨bA, oA + a.toNat, none⟩ = some (.int .i64 ra) ∧ w'.cell? ⟨bA, oA + b.toNat, none⟩ = some (.int .i64 rb)) ((repeat' apply And.intro) <;> first | assumption | (refine far_one ?_ ?_ _ <;> first | assumption | (dsimp only; omega)) | (go_keep; done)) (first
        | (go_at_call 44; (refine (cO _).mono ?_); rintro e w7 ⟨rfl, rfl⟩))
      generalize (w4.setCell ⟨bb, d.toNat, none⟩ (.int .i64 x)).drew = w6 at *
      clear x0 x1 x2 x3 x4 x5 u0 u1 r0 fr0 y0 z0 k0 af
      replace k0 := k2
      replace af := af2
      clear k2 af2
      go_wp2_with fail
      go_meet
      exact ⟨_, _, _, _, _, rfl, k0, by rw [HR.out, HO.out]; exact af⟩
    · subst hop
      obtain ⟨ra, hra⟩ : ∃ ra, rs.getD a.toNat 0 = ra := ⟨_, rfl⟩
      have hr4 := hst.2.1.at_ a.toNat
      rw [hra] at hr4
      obtain ⟨x, hx⟩ : ∃ x, rs.getD b.toNat 0 = x := ⟨_, rfl⟩
      obtain ⟨xc, hxc⟩ : ∃ xc, rs.getD c.toNat 0 = xc := ⟨_, rfl⟩
      have HO : Hid (stepO rs os I 10 d a b c n = os) := Lib.hid (stepO_no (fun e => by have := e.2; omega))
      have hd : 0 ≤ d ∧ d < 8 ∧ 0 ≤ a ∧ a < 8 ∧ 0 ≤ b ∧ b < 8 ∧ 0 ≤ c ∧ c < 8 := by unfold okI isReg at hok; omega
      obtain ⟨hd0, hd8, ha0, ha8, hb0, hb8, hc0, hc8⟩ := hd
      obtain ⟨bb, rfl, hbb, hbt⟩ := own_addr af.o0.own (by omega)
      have hgb : g ≠ bb := fun e => af.f0 (by rw [e]; rfl)
      have hgt := af.lt
      obtain ⟨bA, oA, eA, hbA, u1⟩ := (i0.below k0.low).at_ (j := c.toNat) (by rw [L0.out]; omega)
      subst eA
      rw [hxc] at u1
      obtain ⟨x0, _⟩ := blk (i := 0) k0.s rfl
      go_upto_region 11 with (fail)
      go_cut [7] (fun p wx => p = .pointer (some ⟨g, 0, none⟩) ∧ Bx3S w wx #[.slice (some ⟨bA, oA, none⟩) 8 c0, .slice A1 b1 c1] #[.int .i64 10, .int .i64 d, .int .i64 a, .int .i64 b, .int .i64 c, .int .i64 n] #[.slice none 0 0, .slice none 0 0] ∧ Aft w0 wx g (.slice (some ⟨bb, 0, none⟩) 8 d0) (.slice B1 b1 d1) 8 b1 (rs.set d.toNat xc) os)
      case first =>
        clear x0
        obtain ⟨r0, fr0⟩ := af.o0.cellAt (j := d.toNat) (by omega)
        obtain ⟨y0, _⟩ := blk (i := 0) af.box rfl
        obtain ⟨x0, _⟩ := blk (i := 0) k0.s rfl
        obtain ⟨x1, _⟩ := blk (i := 1) k0.s rfl
        obtain ⟨x2, _⟩ := blk (i := 2) k0.s rfl
        obtain ⟨x3, _⟩ := blk (i := 3) k0.s rfl
        obtain ⟨x4, _⟩ := blk (i := 4) k0.s rfl
        obtain ⟨x5, _⟩ := blk (i := 5) k0.s rfl
        obtain ⟨z0, _⟩ := blk (i := 0) k0.f rfl
        have af2 := (af.set (j := d.toNat) hbb xc).drew
        have k2 := (k0.far (g := bb) (by omega) d.toNat (.int .i64 xc)).drew
        clear h2 hra hx hxc hgo hok hr4
        go_region
        generalize (w4.setCell ⟨bb, d.toNat, none⟩ (.int .i64 xc)).drew = w6 at *
        clear x0 x1 x2 x3 x4 x5 u1 r0 fr0 y0 z0 k0 af
        replace k0 := k2
        replace af := af2
        clear k2 af2
        go_wp2_with fail
        go_meet
        exact ⟨rfl, k0, af⟩
      case rest =>
        obtain ⟨rfl, k9, af9⟩ := hcut
        clear k0 af u1 x0
        replace k0 := k9
        replace af := af9
        clear k9 af9
        by_cases hbit : bits .and .i64 ra 1 = 1
        · have hv : valI rs I 10 a b c n = x := by unfold valI; rw [if_neg (by omega), if_neg (by omega), if_pos rfl, hra, if_pos hbit, hx]
          have HR : Hid (stepR rs os I 10 d a b c n = rs.set d.toNat x) := Lib.hid (by rw [stepR_yes hgo (by omega), hv])
          clear hv hgo hok hr4
          obtain ⟨x0, _⟩ := blk (i := 0) k0.s rfl
          obtain ⟨x1, _⟩ := blk (i := 1) k0.s rfl
          obtain ⟨x2, _⟩ := blk (i := 2) k0.s rfl
          obtain ⟨x3, _⟩ := blk (i := 3) k0.s rfl
          obtain ⟨x4, _⟩ := blk (i := 4) k0.s rfl
          obtain ⟨x5, _⟩ := blk (i := 5) k0.s rfl
          obtain ⟨z0, _⟩ := blk (i := 0) k0.f rfl
          obtain ⟨bA', oA', eA', _, u0⟩ := (i0.below k0.low).at_ (j := a.toNat) (by rw [L0.out]; omega)
          injection eA' with eA'
          injection eA' with e1 e2
          subst e1 e2
          rw [hra] at u0
          obtain ⟨bA', oA', eA', _, u1⟩ := (i0.below k0.low).at_ (j := b.toNat) (by rw [L0.out]; omega)
          injection eA' with eA'
          injection eA' with e1 e2
          subst e1 e2
          rw [hx] at u1
          obtain ⟨r0, fr0⟩ := af.o0.cellAt (j := d.toNat) (by omega)
          obtain ⟨y0, _⟩ := blk (i := 0) af.box rfl
          have af2 := (af.set (j := d.toNat) hbb x).drew
          rw [List.set_set] at af2
          have k2 := (k0.far (g := bb) (by omega) d.toNat (.int .i64 x)).drew
          clear h2 hx hxc hra
          go_wp2_with fail
          go_region
          generalize (wc.setCell ⟨bb, d.toNat, none⟩ (.int .i64 x)).drew = w7 at *
          clear x0 x1 x2 x3 x4 x5 u0 u1 r0 fr0 y0 z0 k0 af
          replace k0 := k2
          replace af := af2
          clear k2 af2
          go_wp2_with fail
          go_meet
          exact ⟨_, _, _, _, _, rfl, k0, by rw [HR.out, HO.out]; exact af⟩
        · have hv : valI rs I 10 a b c n = xc := by unfold valI; rw [if_neg (by omega), if_neg (by omega), if_pos rfl, hra, if_neg hbit, hxc]
          have HR : Hid (stepR rs os I 10 d a b c n = rs.set d.toNat xc) := Lib.hid (by rw [stepR_yes hgo (by omega), hv])
          clear hv hgo hok hr4
          have hr1 : (bits .and .i64 ra 1 == 1) = false := beq_eq_false_iff_ne.2 hbit
          generalize hrl : bits .and .i64 ra 1 = rl at *
          clear hbit
          obtain ⟨x0, _⟩ := blk (i := 0) k0.s rfl
          obtain ⟨x1, _⟩ := blk (i := 1) k0.s rfl
          obtain ⟨x2, _⟩ := blk (i := 2) k0.s rfl
          obtain ⟨x3, _⟩ := blk (i := 3) k0.s rfl
          obtain ⟨x4, _⟩ := blk (i := 4) k0.s rfl
          obtain ⟨x5, _⟩ := blk (i := 5) k0.s rfl
          obtain ⟨z0, _⟩ := blk (i := 0) k0.f rfl
          obtain ⟨bA', oA', eA', _, u0⟩ := (i0.below k0.low).at_ (j := a.toNat) (by rw [L0.out]; omega)
          injection eA' with eA'
          injection eA' with e1 e2
          subst e1 e2
          rw [hra] at u0
          clear h2 hx hxc hra
          go_wp2_with fail
          go_meet
          exact ⟨_, _, _, _, _, rfl, k0, by rw [HR.out, HO.out]; exact af⟩
    · subst hop
      obtain ⟨x, hx⟩ : ∃ x, rs.getD a.toNat 0 = x := ⟨_, rfl⟩
      have HR : Hid (stepR rs os I 11 d a b c n = rs) := Lib.hid (stepR_no (fun e => by have := e.2; omega))
      have HO : Hid (stepO rs os I 11 d a b c n = os ++ [x]) := Lib.hid (by rw [stepO_yes hgo rfl, hx])
      have hd : 0 ≤ a ∧ a < 8 := by unfold okI isReg at hok; omega
      obtain ⟨ha0, ha8⟩ := hd
      clear hgo hok
      have hgt := af.lt
      obtain ⟨x0, _⟩ := blk (i := 0) k0.s rfl
      obtain ⟨x1, _⟩ := blk (i := 1) k0.s rfl
      obtain ⟨x2, _⟩ := blk (i := 2) k0.s rfl
      obtain ⟨x3, _⟩ := blk (i := 3) k0.s rfl
      obtain ⟨x4, _⟩ := blk (i := 4) k0.s rfl
      obtain ⟨x5, _⟩ := blk (i := 5) k0.s rfl
      obtain ⟨z0, _⟩ := blk (i := 0) k0.f rfl
      obtain ⟨y1, _⟩ := blk (i := 1) af.box rfl
      obtain ⟨bA, oA, eA, _, u0⟩ := (i0.below k0.low).at_ (j := a.toNat) (by rw [L0.out]; omega)
      subst eA
      rw [hx] at u0
      have bal := below_alloc w4 (.cells #[.int .i64 x] 3)
      have x2a := cell_on x2 bal
      have z0a := cell_on z0 bal
      have y1a := cell_on y1 bal
      have u0a := cell_on u0 bal
      have hm1 : b1 ≤ 1999999 := M1.out
      have hls := af.low.size
      clear h2 hx
      go_wp2_with fail
      go_region_law (refine app_step (e' := 3) elemInt (by rfl) _ _ (by rfl) w0.heap.size _ b1 (intVals os) (by rfl) ((own_below af.o1.own bal).drew) w4.heap.size 1 1 _ (0, 0) (by rfl) (heap_alloc_new w4 _) (by rfl) (oneCell_i64 [_]) (by omega) (by unfold maxLen; omega) (by omega) (by simp; omega) (w4.heap.size + 1) (by simp) ?_; intro g3 cap3 w7 ho7 hg7 hat7 hl7; (have hc7 := heap_grown (w := (w4.alloc (.cells #[.int .i64 x] 3)).drew) (heap_alloc af.box (.cells #[.int .i64 x] 3)) hg7 (fun e => af.f1 e)); (obtain ⟨y7, f7⟩ := blk (i := 1) hc7 rfl))
      all_goals
        have hg8 : (w4.alloc (.cells #[.int .i64 x] 3)).grownBy w7 (Value.slice B1 b1 d1).ownBlock := ⟨hg7.os, hg7.tape, hg7.output, hg7.size, hg7.block⟩
        have af2 := Aft.app af ho7 hg8 hat7
        have k2 := ((k0.next bal).grown hg8 (fun k e => by have := (af.o1.ltB e).1; omega)).far (g := g) (by omega) 1 (.slice (some ⟨g3, 0, none⟩) (b1 + 1) cap3)
        generalize w7.setCell ⟨g, 1, none⟩ (.slice (some ⟨g3, 0, none⟩) (b1 + 1) cap3) = w6 at *
        clear x0 x1 x2 x3 x4 x5 z0 y1 u0 x2a z0a y1a u0a k0 af y7 f7 hc7 ho7 hg7 hg8 hat7 hl7 bal
        replace k0 := k2
        replace af := af2
        clear k2 af2
        go_wp2_with fail
        go_meet
        exact ⟨_, _, _, _, _, rfl, k0, by rw [HR.out, HO.out]; exact af⟩
end Go.Proofs.YtjfmcdfgccdmpaaGreat
