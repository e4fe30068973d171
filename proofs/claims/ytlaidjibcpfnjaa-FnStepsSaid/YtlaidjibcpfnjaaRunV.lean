/- The law FnSteps: the walk. No condition. -/
import Derived.Test.YtlaidjibcpfnjaaProg
import Derived.Test.YtlaidjibcpfnjaaDrawI
import Derived.Test.YtlaidjibcpfnjaaRunP
import Derived.Test.YtlaidjibcpfnjaaFieldW
import Derived.Test.YtlaidjibcpfnjaaB1
namespace Go.Proofs.Ytlaidjibcpfnjaa
open Go Go.RowKit
theorem StepState_keep (A0 A1 A2 : Option Addr) (c0 c1 n1 n2 c2 : Nat) (rs os : List Int) (I : List (List Int)) (op d a b c n : Int) (W w : World) (h0 : Ints W A0 rs) (l0 : rs.length = 8) (h1 : Ints W A1 os) (l1 : os.length = n1) (m1 : n1 ≤ 1999999) (h2 : Rows W.heap.size W A2 I) (l2 : I.length = n2) (m2 : n2 ≤ 1999999) (hl : Below W.heap.size W w) :
    Calls Try.prog 22 #[.agg #[.slice A0 8 c0, .slice A1 n1 c1], .agg #[.int .i64 op, .int .i64 d, .int .i64 a, .int .i64 b, .int .i64 c, .int .i64 n], .slice A2 n2 c2] w fun e w' => ∃ (U0 U1 : Option Addr) (u1 v0 v1 : Nat), e = .returned (.agg #[.slice U0 8 v0, .slice U1 u1 v1]) ∧ OwnState w.heap.size w'.heap.size w' (.slice U0 8 v0) (.slice U1 u1 v1) 8 u1 (stepR rs os I op d a b c n) (stepO rs os I op d a b c n) ∧ Below W.heap.size W w' ∧ W.heap.size ≤ w'.heap.size ∧ Below w.heap.size w w' :=
  (impl_StepState A0 A1 A2 c0 c1 8 n1 n2 c2 rs os I op d a b c n w (Ints.below h0 hl) l0 (by omega) (Ints.below h1 hl) l1 m1 (h2.next hl) l2 m2).mono fun _ _ ⟨U0, U1, u0, u1, v0, v1, he, ho, hb⟩ => by
    obtain rfl : u0 = 8 := by rw [← ho.o0.len1, stepR_length, l0]
    exact ⟨U0, U1, u1, v0, v1, he, ho, hl.trans (hb.mono hl.size), Nat.le_trans hl.size hb.size, hb⟩
/-- Where the law's loop stands. -/
structure StAt (rs os : List Int) (k : Nat) : Prop where
  ok : stOk rs os
  outs : os.length ≤ k
set_option maxHeartbeats 4000000 in
set_option maxRecDepth 100000 in
theorem FnSteps_walk (A : Option Addr) (n c : Nat) (w : World) (hb : Bytes w.heap.size w A n) (hm : n ≤ 9223372036854775807) :
    Calls Try.prog 5 #[.slice A n c] w fun e w' => e = .returned (.bool true) ∧ Below w.heap.size w w' := by
  by_cases hn : 1048576 < n
  · go_enter Try.func5, Try.ntmps5
    go_wp2_with fail
    refine (big_any A n c w true (by simpa using hn) hm).mono ?_
    rintro e w1 ⟨rfl, rfl⟩
    go_wp2_with fail
    go_ret
    exact ⟨rfl, Below.refl _ _⟩
  have hn' : n ≤ 1048576 := by omega
  go_enter Try.func5, Try.ntmps5
  go_wp2_with fail
  refine (big_any A n c w false (by simpa using hn') hm).mono ?_
  rintro e w1 ⟨rfl, rfl⟩
  go_wp2_with fail
  refine (DrawRun_any A n c w hb (by omega)).mono ?_
  intro e w1 h
  obtain ⟨A1, m1, c1, ss, A2, c2, I, rfl, hl, hP, i1, hI, r1, low⟩ := h
  have m30 : m1 ≤ 30 := by have := hP.len; omega
  have Hl := Lib.hid hl
  have HI := Lib.hid hI
  have LI := Lib.hid hI.1
  clear hP hl hI
  go_wp2_with fail
  refine (DrawPlaces_any A n c w1 (hb.more low low.size) (by omega)).mono ?_
  rintro e w2 ⟨gp, cp, zs, rfl, hzl, hpl, hzo, hb2⟩
  have p0 := hpl.at_ (j := 0) (by omega)
  have iz := Ints.of_own hzo
  obtain ⟨_, _, e1, hgp, c0⟩ := iz.at_ (j := 0) (by omega)
  injection e1 with e1; injection e1 with e2 e3; subst e2 e3
  simp only [Nat.zero_add] at c0
  generalize zs.getD 0 0 = z0 at *
  obtain ⟨p00, p01⟩ := p0
  have hq : 0 ≤ z0 % 12 ∧ z0 % 12 < 12 := by omega
  obtain ⟨hq0, hq1⟩ := hq
  have i2 := (Ints.below i1 hb2).bound
  have r2 := r1.next hb2
  replace low := low.trans (hb2.mono low.size)
  clear hb2 i1 r1 hzl hpl hzo iz hb hn hn' hm
  go_wp2_with fail
  refine (impl_StateNew w2).mono ?_
  rintro e w3 ⟨F0, F1, f0, f1, d0, d1, rfl, oF, hb3⟩
  have k2 := low_alloc hb3 (.cells #[.slice F0 f0 d0, .slice F1 f1 d1] 38)
  have b6 := heap_alloc_new w3 (.cells #[.slice F0 f0 d0, .slice F1 f1 d1] 38)
  have oF2 := oF.alloc (.cells #[.slice F0 f0 d0, .slice F1 f1 d1] 38)
  have t2 := hb3.size
  have Hst : Hid (StAt (List.replicate 8 0) [] 0) := Lib.hid ⟨stOk.start, Nat.le_refl _⟩
  clear oF hb3
  go_wp2_with fail
  generalize w3.alloc (.cells #[.slice F0 f0 d0, .slice F1 f1 d1] 38) = w4 at *
  generalize w3.heap.size = g6 at *
  go_loopw [7] (fun i wr => ∃ (k : Nat) (rs os : List Int) (C0 C1 : Option Addr) (n0 n1 e0 e1 hi : Nat), k ≤ m1 ∧ i = .int .i64 k ∧ wr.heap[g6]? = some (.cells #[.slice C0 n0 e0, .slice C1 n1 e1] 38 (0, 0)) ∧ OwnState w2.heap.size hi wr (.slice C0 n0 e0) (.slice C1 n1 e1) n0 n1 rs os ∧ hi ≤ wr.heap.size ∧ Hid (StAt rs os k) ∧ Below w2.heap.size w2 wr) (fun i _ => m1 - (intOf i).toNat)
  case atStart => exact ⟨0, _, _, F0, F1, f0, f1, d0, d1, g6, Nat.zero_le _, rfl, b6, oF2, by have := heap_lt b6; omega, Hst, k2⟩
  case round =>
    obtain ⟨k, rs, os, C0, C1, n0, n1, e0, e1, hi2, hk, rfl, bx, ow, hhi, hD, hb⟩ := hrel
    clear Hst b6 oF2 k2
    have l0 := ow.o0.len1
    have l1 := ow.o1.len1
    have l8 := hD.out.ok.1
    have lo := hD.out.outs
    obtain rfl : n0 = 8 := by omega
    have n1k : n1 ≤ 30 := by omega
    obtain ⟨z0', -⟩ := blk (i := 0) bx rfl
    obtain ⟨z1', -⟩ := blk (i := 1) bx rfl
    have cz : wr.cell? ⟨gp, 0, none⟩ = some (.int .i64 z0) := (hb.cell (p := ⟨gp, 0, none⟩) hgp).trans c0
    have gs := hb.size
    have gl := heap_lt bx
    by_cases hgo : k < m1 ∧ (k : Int) < 1 + z0 % 12
    case neg =>
      have cS := impl_StateOk C0 8 e0 rs C1 n1 e1 os wr ow.o0.ints l0 (by omega) ow.o1.ints l1 (by omega)
      rw [decide_eq_true hD.out.ok] at cS
      clear l0 l1 l8 lo
      by_cases hlt : k < m1
      · have hge : 1 + z0 % 12 ≤ (k : Int) := by omega
        have hlt3 : (k : Int) < m1 := by omega
        go_wp2_with fail
        refine cS.mono ?_
        rintro e w6 ⟨rfl, hb6⟩
        have low6 := low.trans (hb.mono low.size)
        have r6 := (r2.up hb hb.size).next hb6
        have low7 := low6.trans (hb6.mono low6.size)
        have cI := impl_InputsOk A2 5 c2 I true (decide_eq_true HI.out) w6 r6 LI.out (by omega)
        clear hb6 cS r2 i2 bx ow hb low low6
        go_wp2_with fail
        refine cI.mono ?_
        rintro e w7 ⟨rfl, rfl⟩
        go_wp2_with fail
        go_ret
        exact ⟨rfl, low7⟩
      · obtain rfl : k = m1 := by omega
        go_wp2_with fail
        refine cS.mono ?_
        rintro e w6 ⟨rfl, hb6⟩
        have low6 := low.trans (hb.mono low.size)
        have r6 := (r2.up hb hb.size).next hb6
        have low7 := low6.trans (hb6.mono low6.size)
        have cI := impl_InputsOk A2 5 c2 I true (decide_eq_true HI.out) w6 r6 LI.out (by omega)
        clear hb6 cS r2 i2 bx ow hb low low6
        go_wp2_with fail
        refine cI.mono ?_
        rintro e w7 ⟨rfl, rfl⟩
        go_wp2_with fail
        go_ret
        exact ⟨rfl, low7⟩
    obtain ⟨hlt, hlt2⟩ := hgo
    have hlt3 : (k : Int) < m1 := by omega
    rcases hs : ss.getD k s0 with ⟨op, d, a, b, c3, mm⟩
    have hlk : k < ss.length := by rw [Hl.out]; exact hlt
    obtain ⟨gs1, o, rfl, hgs, q0, q1, q2, q3, q4, q5⟩ := cell6 (i2.below hb) hlk hs
    have j0 := ow.o0.ints
    have j1 := ow.o1.ints
    have L0 := Lib.hid l0
    have L1 := Lib.hid l1
    have r3 := r2.up hb hb.size
    have hst := hD.out.ok
    have HN : Hid (StAt (stepR rs os I op d a b c3 mm) (stepO rs os I op d a b c3 mm) (k + 1)) := Lib.hid ⟨step_ok hst, by have := stepO_length (rs := rs) (os := os) (I := I) (op := op) (d := d) (a := a) (b := b) (c := c3) (n := mm); omega⟩
    have HK : Hid (∀ j : Nat, (stepR rs os I op d a b c3 mm).getD j 0 ≠ rs.getD j 0 → writesOf op d a b c3 mm = (j : Int)) := Lib.hid (fun j h => by
      rcases Decidable.em ((j : Int) = writesOf op d a b c3 mm) with e | e
      · exact e.symm
      · exact absurd (step_keeps e) h)
    have k0 : (0 : Int) ≤ k := by omega
    go_upto_region 9 with (fail)
    go_cut [8] (fun p wx => ∃ (g8 lo8 hi8 : Nat) (D0 D1 : Option Addr) (q1' v0 v1 : Nat), p = .pointer (some ⟨g8, 0, none⟩) ∧ BxdState wr wx g8 lo8 hi8 D0 D1 8 q1' v0 v1 (stepR rs os I op d a b c3 mm) (stepO rs os I op d a b c3 mm))
    case first =>
      have rf0 : Below wr.heap.size wr wr.drew := (Below.refl _ _).drew
      have bal := (below_alloc wr (.cells #[.slice none 0 0, .slice none 0 0] 38)).drew
      have new0 : (wr.alloc (.cells #[.slice none 0 0, .slice none 0 0] 38)).drew.heap[wr.heap.size]? = some (.cells #[.slice none 0 0, .slice none 0 0] 38 (0, 0)) := heap_alloc_new wr _
      have z0'a := cell_on z0' bal
      have z1'a := cell_on z1' bal
      have q0a := cell_on q0 bal
      have q1a := cell_on q1 bal
      have q2a := cell_on q2 bal
      have q3a := cell_on q3 bal
      have q4a := cell_on q4 bal
      have q5a := cell_on q5 bal
      have hz1 : n1 ≤ 1999999 := by omega
      clear hs hD hst HN HK hb i2 r2 bx ow l0 l1
      go_wp2_with fail
      go_region_held3 (fun w' => w'.cell? ⟨g6, 0, none⟩ = some (.slice C0 8 e0) ∧ w'.cell? ⟨g6, 1, none⟩ = some (.slice C1 n1 e1) ∧ w'.cell? ⟨gs1, o + k * 6, none⟩ = some (.int .i64 op) ∧ w'.cell? ⟨gs1, o + k * 6 + 1, none⟩ = some (.int .i64 d) ∧ w'.cell? ⟨gs1, o + k * 6 + 2, none⟩ = some (.int .i64 a) ∧ w'.cell? ⟨gs1, o + k * 6 + 3, none⟩ = some (.int .i64 b) ∧ w'.cell? ⟨gs1, o + k * 6 + 4, none⟩ = some (.int .i64 c3) ∧ w'.cell? ⟨gs1, o + k * 6 + 5, none⟩ = some (.int .i64 mm) ∧ Below wr.heap.size wr w' ∧ wr.heap.size ≤ w'.heap.size) ((repeat' apply And.intro) <;> first | assumption | (refine set_lows ?_ ?_ _ _ <;> first | assumption | omega) | (refine far_two ?_ ?_ _ _ <;> first | assumption | (dsimp only; omega)) | (go_keep; done) | (go_grown; done) | (go_size; done) | (simp; omega)) (first
        | (go_at_call 22; (with_reducible refine (StepState_keep C0 C1 A2 e0 e1 n1 5 c2 rs os I op d a b c3 mm wr _ j0 L0.out j1 L1.out hz1 r3 LI.out ?_ ?_).mono ?_); (exact (by omega : 5 ≤ 1999999)); assumption; rintro e w5 ⟨U0, U1, u1, v0, v1, rfl, oU, hk3, hk4, hb5⟩; (have z0'7 := cell_on (W := wr) z0' hk3); (have z1'7 := cell_on (W := wr) z1' hk3); (have q07 := cell_on (W := wr) q0 hk3); (have q17 := cell_on (W := wr) q1 hk3); (have q27 := cell_on (W := wr) q2 hk3); (have q37 := cell_on (W := wr) q3 hk3); (have q47 := cell_on (W := wr) q4 hk3); (have q57 := cell_on (W := wr) q5 hk3); (first | ((have hx := heap_below new0 hb5); (obtain ⟨y0, f0'⟩ := blk (i := 0) hx rfl); (obtain ⟨y1, f1'⟩ := blk (i := 1) hx rfl)) | skip)))
      all_goals
        go_wp2_with fail
        go_meet
        first
          | exact ⟨_, _, _, _, _, _, _, _, rfl, BxdState.last oU hk3 (by first | assumption | (simp <;> omega))⟩
          | exact ⟨_, _, _, _, _, _, _, _, rfl, BxdState.early oU hk3 (by first | assumption | (simp <;> omega)) hx (by first | omega | (simp <;> omega)) (by first | omega | (simp <;> omega))⟩
    case rest =>
      obtain ⟨g8, lo8, hi8, D0, D1, q1', v0, v1, rfl, hN⟩ := hcut
      have ow8 := hN.own
      have bx8 := hN.box
      have at8 := hN.at_
      have low8 := hN.low
      have bx6 := heap_below bx low8
      have ow6 := ow.below low8
      have hbc := hb.trans (low8.mono hb.size)
      have m0 := ow8.o0.len1
      have m1' := ow8.o1.len1
      have hq30 : q1' ≤ 31 := by have := HN.out.outs; omega
      have cS := impl_StateOk D0 8 v0 _ D1 q1' v1 _ wc ow8.o0.ints m0 (by omega) ow8.o1.ints m1' (by omega)
      rw [decide_eq_true HN.out.ok] at cS
      have M0 := Lib.hid m0
      have M1 := Lib.hid m1'
      clear hN hD hst low8 bx ow hb m0 m1' r3 j0 j1 z0' z1' q0 q1 q2 q3 q4 q5 l0 l1 lo l8
      generalize stepR rs os I op d a b c3 mm = rs' at *
      generalize stepO rs os I op d a b c3 mm = os' at *
      obtain ⟨y0, -⟩ := blk (i := 0) bx8 rfl
      obtain ⟨y1, -⟩ := blk (i := 1) bx8 rfl
      obtain ⟨z0, -⟩ := blk (i := 0) bx6 rfl
      have al1 := at8.1
      have al2 := at8.2.1
      have al3 := at8.2.2.1
      have al4 := at8.2.2.2.1
      have hg6 : g6 < lo8 := by omega
      have hlo8 : w2.heap.size ≤ lo8 := by omega
      have hne68 : g6 ≠ g8 := by omega
      obtain ⟨wo, rfl⟩ : ∃ wo : World, wo = wr := ⟨_, rfl⟩
      go_wp2_with fail
      refine cS.mono ?_
      rintro e w5 ⟨rfl, hb5⟩
      replace bx8 := heap_below bx8 hb5
      replace bx6 := heap_below bx6 hb5
      replace ow8 := ow8.below hb5
      replace ow6 := ow6.below hb5
      replace hbc := hbc.trans (hb5.mono hbc.size)
      have t5 := hb5.size
      clear hb5 cS y0 y1 z0
      obtain ⟨y0, -⟩ := blk (i := 0) bx8 rfl
      obtain ⟨z0, -⟩ := blk (i := 0) bx6 rfl
      go_wp2_with fail
      go_loopw [9] (fun v wr2 => ∃ j : Nat, j ≤ 8 ∧ v = .int .i64 j ∧ Below w5.heap.size w5 wr2) (fun v _ => 8 - (intOf v).toNat)
      case atStart => exact ⟨0, by omega, rfl, Below.refl _ _⟩
      case round =>
        obtain ⟨j, hj, rfl, hb6⟩ := hrel
        have ow8' := ow8.below hb6
        have ow6' := ow6.below hb6
        have bx8' := heap_below bx8 hb6
        have bx6' := heap_below bx6 hb6
        clear y0 z0
        obtain ⟨y0, -⟩ := blk (i := 0) bx8' rfl
        obtain ⟨z0, -⟩ := blk (i := 0) bx6' rfl
        by_cases hlt8 : j < 8
        case neg =>
          obtain rfl : j = 8 := by omega
          obtain ⟨y1, -⟩ := blk (i := 1) bx8' rfl
          obtain ⟨z1, zf1⟩ := blk (i := 1) bx6' rfl
          obtain ⟨z0a, zf0⟩ := blk (i := 0) bx6' rfl
          have BX := Lib.hid (heap_set (i := 1) (heap_set (i := 0) bx6' (.slice D0 8 v0)) (.slice D1 q1' v1))
          have OU := Lib.hid ((ow8'.setFar (g := g6) (i := 0) hg6 (.slice D0 8 v0)).setFar (g := g6) (i := 1) hg6 (.slice D1 q1' v1))
          have hbb := hbc.trans (hb6.mono hbc.size)
          have HB := Lib.hid ((hbb.setCell (p := ⟨g6, 0, none⟩) t2 (.slice D0 8 v0)).setCell (p := ⟨g6, 1, none⟩) t2 (.slice D1 q1' v1))
          have hs6 := hb6.size
          clear ow8 ow6 bx8 bx6 ow8' ow6' bx8' bx6' hbb hbc hb6 HK
          go_wp2_with fail
          go_roundw
          case rel => exact ⟨k + 1, rs', os', D0, D1, 8, q1', v0, v1, hi8, by omega, by go_num, BX.out, OU.out.wide hlo8 (Nat.le_refl _), by simp; omega, HN, HB.out⟩
          case measure => simp [intOf]; omega
        obtain ⟨bD, rfl, _, _⟩ := own_addr ow8'.o0.own.choose_spec (by omega)
        obtain ⟨bC, rfl, _, _⟩ := own_addr ow6'.o0.own.choose_spec (by omega)
        obtain ⟨_, _, eD, _, u0⟩ := ow8'.o0.ints.at_ (j := j) (by rw [M0.out]; exact hlt8)
        injection eD with eD; injection eD with eD1 eD2; subst eD1 eD2
        obtain ⟨_, _, eC, _, u1⟩ := ow6'.o0.ints.at_ (j := j) (by rw [L0.out]; exact hlt8)
        injection eC with eC; injection eC with eC1 eC2; subst eC1 eC2
        simp only [Nat.zero_add] at u0 u1
        have hw := HK.out j
        generalize rs'.getD j 0 = x at *
        generalize rs.getD j 0 = y at *
        have hj0 : (0 : Int) ≤ j := by omega
        have hj8 : (j : Int) < 8 := by omega
        by_cases hxy : x = y
        · subst hxy
          clear hw ow8 ow6 bx8 bx6 ow8' ow6' bx8' bx6' hbc HK HN
          go_wp2_with fail
          go_quiet (fail)
          go_wp2_with fail
          go_roundw
          case rel => exact ⟨j + 1, by omega, by go_num, below_drewN hb6 _⟩
          case measure => simp [intOf]; omega
        · have hwj := hw hxy
          have hne : (x == y) = false := beq_eq_false_iff_ne.2 hxy
          have hne2 : (x != y) = true := by unfold bne; rw [hne]; rfl
          obtain ⟨_, _, eS, _, q0, q1, q2, q3, q4, q5⟩ := cell6 (i2.below (hbc.trans (hb6.mono hbc.size))) hlk hs
          injection eS with eS; injection eS with eS1 eS2; subst eS1 eS2
          have cW := spec_WritesOf op d a b c3 mm
          rw [hwj] at cW
          clear hw hwj ow8 ow6 bx8 bx6 ow8' ow6' bx8' bx6' hbc HK HN hs
          go_wp2_with fail
          go_region_held3 (fun w' => w'.cell? ⟨g8, 0, none⟩ = some (.slice (some ⟨bD, 0, none⟩) 8 v0) ∧ w'.cell? ⟨g6, 0, none⟩ = some (.slice (some ⟨bC, 0, none⟩) 8 e0) ∧ w'.cell? ⟨bD, j, none⟩ = some (.int .i64 x) ∧ w'.cell? ⟨bC, j, none⟩ = some (.int .i64 y) ∧ w'.cell? ⟨gs1, o + k * 6, none⟩ = some (.int .i64 op) ∧ w'.cell? ⟨gs1, o + k * 6 + 1, none⟩ = some (.int .i64 d) ∧ w'.cell? ⟨gs1, o + k * 6 + 2, none⟩ = some (.int .i64 a) ∧ w'.cell? ⟨gs1, o + k * 6 + 3, none⟩ = some (.int .i64 b) ∧ w'.cell? ⟨gs1, o + k * 6 + 4, none⟩ = some (.int .i64 c3) ∧ w'.cell? ⟨gs1, o + k * 6 + 5, none⟩ = some (.int .i64 mm)) ((repeat' apply And.intro) <;> first | assumption | (go_keep; done)) (first
            | (go_at_call 24; (refine (cW _).mono ?_); rintro e w7 ⟨rfl, hb7⟩; (have y07 := cell_on (W := wr.drew) y0 hb7); (have z07 := cell_on (W := wr.drew) z0 hb7); (have u07 := cell_on (W := wr.drew) u0 hb7); (have u17 := cell_on (W := wr.drew) u1 hb7); (have q07 := cell_on (W := wr.drew) q0 hb7); (have q17 := cell_on (W := wr.drew) q1 hb7); (have q27 := cell_on (W := wr.drew) q2 hb7); (have q37 := cell_on (W := wr.drew) q3 hb7); (have q47 := cell_on (W := wr.drew) q4 hb7); (have q57 := cell_on (W := wr.drew) q5 hb7)))
          go_wp2_with fail
          go_roundw
          case rel => exact ⟨j + 1, by omega, by go_num, hb6.drew.trans (hb7.mono hb6.size)⟩
          case measure => simp [intOf]; omega
end Go.Proofs.Ytlaidjibcpfnjaa
