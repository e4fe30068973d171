/- The law FnCircuits: the walk. No condition. -/
import Derived.Test.YtegdlegndgdgiaaProg
import Derived.Test.YtegdlegndgdgiaaCirI
import Derived.Test.YtegdlegndgdgiaaCirC
import Derived.Test.YtegdlegndgdgiaaCirF
import Derived.Test.YtegdlegndgdgiaaB1
import Derived.Lib.QuietBelow
import Derived.Test.YtegdlegndgdgiaaCirK
namespace Go.Proofs.Ytegdlegndgdgiaa
open Go Go.RowKit
/-- A contract that keeps two cells and what lies below. -/
theorem keep_two {P : Program} {f : Nat} {args : Array Value} {W0 W : World} {r : Value} {p q : Addr} {u v : Value} (h : Calls P f args W fun e w' => e = .returned r ∧ Below W.heap.size W w')
    (k0 : W.cell? p = some u) (k1 : W.cell? q = some v) (hb : Below W0.heap.size W0 W) :
    Calls P f args W fun e w' => e = .returned r ∧ w'.cell? p = some u ∧ w'.cell? q = some v ∧ Below W0.heap.size W0 w' := by
  refine h.mono ?_
  rintro e w' ⟨rfl, h1⟩
  exact ⟨rfl, cell_on k0 h1, cell_on k1 h1, hb.trans (h1.mono hb.size)⟩
set_option maxHeartbeats 8000000 in
set_option maxRecDepth 100000 in
theorem FnCircuits_walk (A : Option Addr) (n c : Nat) (w : World) (hb : Bytes w.heap.size w A n) (hm : n ≤ 9223372036854775807) :
    Calls Try.prog 4 #[.slice A n c] w fun e w' => e = .returned (.bool true) ∧ Below w.heap.size w w' := by
  by_cases hn : 1048576 < n
  · go_enter Try.func4, Try.ntmps4
    go_wp2_with fail
    refine (big_any A n c w true (by simpa using hn) hm).mono ?_
    rintro e w1 ⟨rfl, rfl⟩
    go_wp2_with fail
    go_ret
    exact ⟨rfl, Below.refl _ _⟩
  have hn' : n ≤ 1048576 := by omega
  go_enter Try.func4, Try.ntmps4
  go_wp2_with fail
  refine (big_any A n c w false (by simpa using hn') hm).mono ?_
  rintro e w1 ⟨rfl, rfl⟩
  go_wp2_with fail
  refine (DrawCircuit_any A n c w hb (by omega)).mono ?_
  intro e w1 h
  obtain ⟨A0, N, c0, z0, A1, m, c1, z1, A2, c2, bs, rfl, ⟨n1, n24⟩, hm4, hg, hw, hbs, l0, l1, i0, i1, i2, low⟩ := h
  have hcir : cirOk z0 N z1 := ⟨by omega, hg, hw⟩
  have cW := impl_EvalWires A0 N c0 z0 A1 m c1 z1 A2 80 c2 bs _ (i0.al (.cells #[.slice A0 N c0, .slice A1 m c1] 31)) l0 (by omega) (i1.al _) l1 (by omega) (i2.al _) hbs.1 (by omega)
  have cC := fun W k0 k1 k2 => impl_EvalCircuit A0 N c0 z0 A1 m c1 z1 A2 80 c2 bs W k0 l0 (by omega) k1 l1 (by omega) k2 hbs.1 (by omega)
  have cO := fun W k0 k1 => impl_CircuitOk A0 N c0 z0 A1 m c1 z1 true (decide_eq_true hcir) W k0 l0 (by omega) k1 l1 (by omega)
  have cD := fun W k0 k1 => impl_AndDepth A0 N c0 z0 A1 m c1 z1 W k0 l0 (by omega) k1 l1 (by omega)
  have cN := fun W k0 => impl_CountGates A0 N c0 z0 A1 m c1 4 W k0 l0 (by omega)
  have hev : evOk z0 N z1 bs := ⟨hcir, hbs⟩
  rw [show evW z0 N z1 bs = wv z0 bs N from if_pos hev] at cW
  simp only [show evC z0 N z1 bs = outV (wv z0 bs N) z1 from if_pos hev, decide_eq_true hev] at cC
  simp only [show depI z0 N z1 = mxd z0 N from if_pos hcir] at cD
  have hle := mxd_le z0 N
  have hmx0 := (mxd_ge z0 N).1
  have hcn := cnt_le z0 4 N
  have HG := Lib.hid hg
  have HW := Lib.hid hw
  have HB := Lib.hid hbs
  have L0 := Lib.hid l0
  have L1 := Lib.hid l1
  have HV := Lib.hid (fun i (hi : i < N) => wv_at (bs := bs) hg hi)
  have HVb := Lib.hid (wv_bit hg hbs.2 N (Nat.le_refl _))
  have LV := Lib.hid (wv_length z0 bs N)
  generalize wv z0 bs N = vs at *
  generalize mxd z0 N = D at *
  generalize cnt z0 4 N = C at *
  have bx := heap_alloc_new w1 (.cells #[.slice A0 N c0, .slice A1 m c1] 31)
  have low1 := low_alloc low (.cells #[.slice A0 N c0, .slice A1 m c1] 31)
  have j0 := (i0.al (.cells #[.slice A0 N c0, .slice A1 m c1] 31)).bound
  have j1 := (i1.al (.cells #[.slice A0 N c0, .slice A1 m c1] 31)).bound
  have j2 := (i2.al (.cells #[.slice A0 N c0, .slice A1 m c1] 31)).bound
  clear hcir hev hg hw hbs l0 l1 i0 i1 i2 low hb hm hn hn'
  go_wp2_with fail
  generalize hw0 : w1.alloc (.cells #[.slice A0 N c0, .slice A1 m c1] 31) = w0 at *
  have hgl := heap_lt bx
  clear hw0
  refine cW.mono ?_
  rintro e w2 ⟨B1, nB, cB, rfl, oB, hb2⟩
  obtain rfl : nB = N := by rw [← oB.len1, LV.out]
  have iB := oB.ints.bound
  have bx2 := heap_below bx hb2
  clear oB cW bx
  have g0 := (blk (i := 0) bx2 rfl).1
  have g1 := (blk (i := 1) bx2 rfl).1
  go_wp2_with fail
  refine (cC w2 ((j0.below hb2).ints hb2.size) ((j1.below hb2).ints hb2.size) ((j2.below hb2).ints hb2.size)).mono ?_
  rintro e w3 ⟨B2, nO, cO', rfl, oO, hb3⟩
  have lo := outV_length vs z1
  obtain rfl : nO = m := by rw [← oO.len1, lo, L1.out]
  have iO := oO.ints
  have bx3 := heap_below bx2 hb3
  have hb23 := hb2.trans (hb3.mono hb2.size)
  replace j0 := (j0.below hb23).ints hb23.size
  replace j1 := (j1.below hb23).ints hb23.size
  replace j2 := (j2.below hb23).ints hb23.size
  replace iB := (iB.below hb3).ints hb3.size
  have low3 := low1.trans (hb23.mono low1.size)
  clear oO cC bx2 g0 g1 hb2 hb3 hb23 lo low1 hgl
  have g0 := (blk (i := 0) bx3 rfl).1
  have g1 := (blk (i := 1) bx3 rfl).1
  go_wp2_with fail
  go_loopw [8] (fun i wr => ∃ k : Nat, k ≤ nB ∧ i = .int .i64 k ∧ Below w3.heap.size w3 wr) (fun i _ => nB - (intOf i).toNat)
  case atStart => exact ⟨0, Nat.zero_le _, rfl, Below.refl _ _⟩
  case round =>
    clear g0 g1
    obtain ⟨k, hk, rfl, hbr⟩ := hrel
    have bxr := heap_below bx3 hbr
    have g0 := (blk (i := 0) bxr rfl).1
    have g1 := (blk (i := 1) bxr rfl).1
    by_cases hlt : k < nB
    · obtain ⟨g, o, rfl, -, q0⟩ := (j0.below hbr).at_ (j := k * 3) (by rw [L0.out]; omega)
      obtain ⟨_, _, e1, -, q1⟩ := (j0.below hbr).at_ (j := k * 3 + 1) (by rw [L0.out]; omega)
      injection e1 with e1; injection e1 with e11 e12; subst e11 e12
      rw [← Nat.add_assoc] at q1
      obtain ⟨_, _, e1, -, q2⟩ := (j0.below hbr).at_ (j := k * 3 + 2) (by rw [L0.out]; omega)
      injection e1 with e1; injection e1 with e11 e12; subst e11 e12
      rw [← Nat.add_assoc] at q2
      have hgo : gateOk (z0.getD (k * 3) 0) (z0.getD (k * 3 + 1) 0) (z0.getD (k * 3 + 2) 0) k := HG.out k hlt
      have hval : vs.getD k 0 = gval (z0.getD (k * 3) 0) (z0.getD (k * 3 + 1) 0) (z0.getD (k * 3 + 2) 0) vs bs := HV.out k hlt
      generalize z0.getD (k * 3) 0 = x at *
      generalize z0.getD (k * 3 + 1) 0 = y at *
      generalize z0.getD (k * 3 + 2) 0 = z at *
      have hba := hbr.trans ((below_alloc wr (.cells #[.int .i64 x, .int .i64 y, .int .i64 z] 45)).mono hbr.size)
      obtain ⟨gB, oB, rfl, -, qV⟩ := (iB.below hba).at_ (j := k) (by rw [LV.out]; exact hlt)
      obtain ⟨V0, V1⟩ := HVb.out.at_ k
      have hVs : ∀ i, vs.getD i 0 = vs.getD i 0 := fun _ => rfl
      obtain ⟨V, hV⟩ : ∃ V, vs.getD k 0 = V := ⟨_, rfl⟩
      rw [hV] at qV V0 V1 hval
      have gb := heap_alloc_new wr (.cells #[.int .i64 x, .int .i64 y, .int .i64 z] 45)
      have v0 : decide (V < 0) = false := decide_eq_false (by omega)
      have v1 : decide (1 < V) = false := decide_eq_false (by omega)
      have hgo2 := Lib.hid (decide_eq_true hgo)
      have k0 : (0 : Int) ≤ k := by omega
      have k1 : (k : Int) < nB := by omega
      have jb := j2.below hba
      have iv := iB.below hba
      have HVAL := Lib.hid hval
      clear hVs hV hbr cO cD cN bxr hval
      go_upto_region 13 with (fail)
      simp only [List.append]
      generalize wr.alloc (.cells #[.int .i64 x, .int .i64 y, .int .i64 z] 45) = wa at *
      generalize wr.heap.size = G at *
      have t0 := (blk (i := 0) gb rfl).1
      have t1 := (blk (i := 1) gb rfl).1
      have t2 := (blk (i := 2) gb rfl).1
      clear gb q0 q1 q2 qV g0 g1
      refine wp_region_quiet_below (by kernel_rfl) (lexOf (by kernel_rfl)) ?_
      rcases hgo with ⟨rfl, ⟨a0, a1⟩, rfl⟩ | ⟨rfl, ⟨a0, a1⟩, rfl⟩ | ⟨h34, ⟨a0, a1⟩, b0, b1⟩ | ⟨rfl, ⟨a0, a1⟩, rfl⟩
      · obtain ⟨g2, o2, rfl, -, q⟩ := jb.at_ (j := y.toNat) (by rw [HB.out.1]; omega)
        rw [show bs.getD y.toNat 0 = V by rw [HVAL.out]; simp [gval]] at q
        clear jb iv HVAL
        have t0r := cell_regrown t0
        have t1r := cell_regrown t1
        have t2r := cell_regrown t2
        have qr := cell_regrown q
        have cG : ∀ d os, Calls Try.prog 27 #[.agg #[.int .i64 1, .int .i64 y, .int .i64 0], .int .i64 k] (Go.Sort.grow (redrawn wa d) os) fun e w'' => e = .returned (.bool true) ∧ ∃ p : Regrown, w'' = Go.Sort.grow (redrawn wa p.d) p.os := fun d os => Calls.regrown_of (impl_GateOk 1 y 0 k true hgo2.out _)
        clear t0 t1 t2 q
        repeat (first | go_big_quiet_step (exact cG _ _) | quiet_step (exact cG _ _))
        refine wpQuiet_nil ?_
        intro _ hw'
        obtain ⟨⟨dq, osq⟩, hw''⟩ := hw'
        subst hw''
        have HBR := Lib.hid (hba.trans ((below_regrown wa dq osq).mono hba.size))
        generalize Go.Sort.grow (redrawn wa dq) osq = wz at *
        clear cG hba t0r t1r t2r qr
        go_wp2_with fail
        go_roundw
        case rel => exact ⟨k + 1, by omega, by go_num, HBR.out⟩
        case measure => simp [intOf]; omega
      · obtain rfl : V = y := by rw [HVAL.out]; simp [gval]
        clear jb iv HVAL
        have t0r := cell_regrown t0
        have t1r := cell_regrown t1
        have t2r := cell_regrown t2
        have cG : ∀ d os, Calls Try.prog 27 #[.agg #[.int .i64 2, .int .i64 V, .int .i64 0], .int .i64 k] (Go.Sort.grow (redrawn wa d) os) fun e w'' => e = .returned (.bool true) ∧ ∃ p : Regrown, w'' = Go.Sort.grow (redrawn wa p.d) p.os := fun d os => Calls.regrown_of (impl_GateOk 2 V 0 k true hgo2.out _)
        clear t0 t1 t2
        repeat (first | go_big_quiet_step (exact cG _ _) | quiet_step (exact cG _ _))
        refine wpQuiet_nil ?_
        intro _ hw'
        obtain ⟨⟨dq, osq⟩, hw''⟩ := hw'
        subst hw''
        have HBR := Lib.hid (hba.trans ((below_regrown wa dq osq).mono hba.size))
        generalize Go.Sort.grow (redrawn wa dq) osq = wz at *
        clear cG hba t0r t1r t2r
        go_wp2_with fail
        go_roundw
        case rel => exact ⟨k + 1, by omega, by go_num, HBR.out⟩
        case measure => simp [intOf]; omega
      · obtain ⟨g2, o2, e1, -, q⟩ := iv.at_ (j := y.toNat) (by rw [LV.out]; omega)
        injection e1 with e1; injection e1 with e11 e12; subst e11 e12
        obtain ⟨_, _, e1, -, p⟩ := iv.at_ (j := z.toNat) (by rw [LV.out]; omega)
        injection e1 with e1; injection e1 with e11 e12; subst e11 e12
        have p1b := HVb.out.at_ y.toNat
        have p2b := HVb.out.at_ z.toNat
        rcases h34 with rfl | rfl
        · have hx : bits .xor .i64 (vs.getD y.toNat 0) (vs.getD z.toNat 0) = V := by rw [xor_bit p1b p2b, HVAL.out]; simp [gval]
          generalize vs.getD y.toNat 0 = p1 at *
          generalize vs.getD z.toNat 0 = p2 at *
          clear jb iv HVAL p1b p2b
          have t0r := cell_regrown t0
          have t1r := cell_regrown t1
          have t2r := cell_regrown t2
          have qr := cell_regrown q
          have pr := cell_regrown p
          have cG : ∀ d os, Calls Try.prog 27 #[.agg #[.int .i64 3, .int .i64 y, .int .i64 z], .int .i64 k] (Go.Sort.grow (redrawn wa d) os) fun e w'' => e = .returned (.bool true) ∧ ∃ p : Regrown, w'' = Go.Sort.grow (redrawn wa p.d) p.os := fun d os => Calls.regrown_of (impl_GateOk 3 y z k true hgo2.out _)
          clear t0 t1 t2 q p
          repeat (first | go_big_quiet_step (exact cG _ _) | quiet_step (exact cG _ _))
          refine wpQuiet_nil ?_
          intro _ hw'
          obtain ⟨⟨dq, osq⟩, hw''⟩ := hw'
          subst hw''
          have HBR := Lib.hid (hba.trans ((below_regrown wa dq osq).mono hba.size))
          generalize Go.Sort.grow (redrawn wa dq) osq = wz at *
          clear cG hba t0r t1r t2r qr pr
          go_wp2_with fail
          go_roundw
          case rel => exact ⟨k + 1, by omega, by go_num, HBR.out⟩
          case measure => simp [intOf]; omega
        · have hx : bits .and .i64 (vs.getD y.toNat 0) (vs.getD z.toNat 0) = V := by rw [and_bit p1b p2b, HVAL.out]; simp [gval]
          generalize vs.getD y.toNat 0 = p1 at *
          generalize vs.getD z.toNat 0 = p2 at *
          clear jb iv HVAL p1b p2b
          have t0r := cell_regrown t0
          have t1r := cell_regrown t1
          have t2r := cell_regrown t2
          have qr := cell_regrown q
          have pr := cell_regrown p
          have cG : ∀ d os, Calls Try.prog 27 #[.agg #[.int .i64 4, .int .i64 y, .int .i64 z], .int .i64 k] (Go.Sort.grow (redrawn wa d) os) fun e w'' => e = .returned (.bool true) ∧ ∃ p : Regrown, w'' = Go.Sort.grow (redrawn wa p.d) p.os := fun d os => Calls.regrown_of (impl_GateOk 4 y z k true hgo2.out _)
          clear t0 t1 t2 q p
          repeat (first | go_big_quiet_step (exact cG _ _) | quiet_step (exact cG _ _))
          refine wpQuiet_nil ?_
          intro _ hw'
          obtain ⟨⟨dq, osq⟩, hw''⟩ := hw'
          subst hw''
          have HBR := Lib.hid (hba.trans ((below_regrown wa dq osq).mono hba.size))
          generalize Go.Sort.grow (redrawn wa dq) osq = wz at *
          clear cG hba t0r t1r t2r qr pr
          go_wp2_with fail
          go_roundw
          case rel => exact ⟨k + 1, by omega, by go_num, HBR.out⟩
          case measure => simp [intOf]; omega
      · obtain ⟨g2, o2, e1, -, q⟩ := iv.at_ (j := y.toNat) (by rw [LV.out]; omega)
        injection e1 with e1; injection e1 with e11 e12; subst e11 e12
        obtain ⟨p0, p1⟩ := HVb.out.at_ y.toNat
        have hx : 1 - vs.getD y.toNat 0 = V := by rw [HVAL.out]; simp [gval]
        generalize vs.getD y.toNat 0 = p1 at *
        clear jb iv HVAL
        have t0r := cell_regrown t0
        have t1r := cell_regrown t1
        have t2r := cell_regrown t2
        have qr := cell_regrown q
        have cG : ∀ d os, Calls Try.prog 27 #[.agg #[.int .i64 5, .int .i64 y, .int .i64 0], .int .i64 k] (Go.Sort.grow (redrawn wa d) os) fun e w'' => e = .returned (.bool true) ∧ ∃ p : Regrown, w'' = Go.Sort.grow (redrawn wa p.d) p.os := fun d os => Calls.regrown_of (impl_GateOk 5 y 0 k true hgo2.out _)
        clear t0 t1 t2 q
        repeat (first | go_big_quiet_step (exact cG _ _) | quiet_step (exact cG _ _))
        refine wpQuiet_nil ?_
        intro _ hw'
        obtain ⟨⟨dq, osq⟩, hw''⟩ := hw'
        subst hw''
        have HBR := Lib.hid (hba.trans ((below_regrown wa dq osq).mono hba.size))
        generalize Go.Sort.grow (redrawn wa dq) osq = wz at *
        clear cG hba t0r t1r t2r qr
        go_wp2_with fail
        go_roundw
        case rel => exact ⟨k + 1, by omega, by go_num, HBR.out⟩
        case measure => simp [intOf]; omega
    · obtain rfl : k = nB := by omega
      have j0r := j0.below hbr
      have j1r := j1.below hbr
      have iVr := iB.below hbr
      have iOr := iO.below hbr
      have lowr := low3.trans (hbr.mono low3.size)
      have hdl : decide (D ≤ (C : Int)) = true := decide_eq_true hle
      clear j0 j1 j2 iB iO bx3 hbr low3 HV HG HB hlt g0 g1
      obtain ⟨wo, rfl⟩ : ∃ wo : World, wo = wr := ⟨_, rfl⟩
      go_wp2_with fail
      go_loopw [11] (fun i wq => ∃ j : Nat, j ≤ nO ∧ i = .int .i64 j ∧ Below wo.heap.size wo wq) (fun i _ => nO - (intOf i).toNat)
      case atStart => exact ⟨0, Nat.zero_le _, rfl, Below.refl _ _⟩
      case round =>
        obtain ⟨j, hj, rfl, hbq⟩ := hrel
        have bxq := heap_below bxr hbq
        have g0 := (blk (i := 0) bxq rfl).1
        have g1 := (blk (i := 1) bxq rfl).1
        by_cases hlt : j < nO
        · have hlt' : j < z1.length := by rw [L1.out]; exact hlt
          obtain ⟨y0, y1⟩ := HW.out _ (gD_mem (d := 0) hlt')
          obtain ⟨ga1, oa1, rfl, -, q1⟩ := (j1r.below hbq).at_ hlt'
          obtain ⟨ga2, oa2, rfl, -, q2⟩ := (iVr.below hbq).at_ (j := (z1.getD j 0).toNat) (by rw [LV.out]; omega)
          obtain ⟨ga3, oa3, rfl, -, q3⟩ := (iOr.below hbq).at_ (j := j) (by rw [outV_length]; exact hlt')
          rw [outV_at vs z1 hlt'] at q3
          generalize z1.getD j 0 = y at *
          generalize vs.getD y.toNat 0 = V at *
          have k0 : (0 : Int) ≤ j := by omega
          have k1 : (j : Int) < nO := by omega
          clear j0r j1r iVr iOr cO cD cN hlt'
          go_wp2_with fail
          go_quiet (fail)
          go_wp2_with fail
          go_roundw
          case rel => exact ⟨j + 1, by omega, by go_num, below_drewN hbq _⟩
          case measure => simp [intOf]; omega
        · obtain rfl : j = nO := by omega
          have e0 := j0r.below hbq
          have e1 := j1r.below hbq
          have lowq := lowr.trans (hbq.mono lowr.size)
          have r0 := cell_regrown g0
          have r1 := cell_regrown g1
          have kk1 : ∀ d os, Calls Try.prog 28 #[.agg #[.slice A0 k c0, .slice A1 j c1]] (Go.Sort.grow (redrawn wr d) os) fun e w'' => e = .returned (.bool true) ∧ ∃ p : Regrown, w'' = Go.Sort.grow (redrawn wr p.d) p.os := fun d os => Calls.regrown_of (cO _ (e0.below (below_regrown wr d os)) (e1.below (below_regrown wr d os)))
          have kk2 : ∀ d os, Calls Try.prog 29 #[.agg #[.slice A0 k c0, .slice A1 j c1]] (Go.Sort.grow (redrawn wr d) os) fun e w'' => e = .returned (.int .i64 D) ∧ ∃ p : Regrown, w'' = Go.Sort.grow (redrawn wr p.d) p.os := fun d os => Calls.regrown_of (cD _ (e0.below (below_regrown wr d os)) (e1.below (below_regrown wr d os)))
          have kk3 : ∀ d os, Calls Try.prog 30 #[.agg #[.slice A0 k c0, .slice A1 j c1], .int .i64 4] (Go.Sort.grow (redrawn wr d) os) fun e w'' => e = .returned (.int .i64 (C : Int)) ∧ ∃ p : Regrown, w'' = Go.Sort.grow (redrawn wr p.d) p.os := fun d os => Calls.regrown_of (cN _ (e0.below (below_regrown wr d os)))
          clear j0r j1r iVr iOr cO cD cN bxq hbq bxr lowr
          go_wp2_with fail
          refine wp_region_quiet_below (by kernel_rfl) (by kernel_rfl) ?_
          repeat (first | go_big_quiet_step (first | exact kk1 _ _ | exact kk2 _ _ | exact kk3 _ _) | quiet_step (first | exact kk1 _ _ | exact kk2 _ _ | exact kk3 _ _))
          refine wpQuiet_nil ?_
          intro _ hw'
          obtain ⟨⟨dq, osq⟩, hw''⟩ := hw'
          subst hw''
          have lowf := lowq.trans ((below_regrown wr dq osq).mono lowq.size)
          clear kk1 kk2 kk3 r0 r1 g0 g1 e0 e1
          go_wp2_with fail
          go_ret
          exact ⟨by first | rfl | simp, lowf⟩
end Go.Proofs.Ytegdlegndgdgiaa
