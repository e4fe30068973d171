/- PublicOf, the model's. No condition. -/
import Derived.Test.YtfpcjgolcbjnjaaProg
import Derived.Test.YtfpcjgolcbjnjaaGbW
import Derived.Deep.RegionLaw
import Derived.Deep.CutBlock
import Derived.Deep.RegionHeld3
namespace Go.Proofs.Ytfpcjgolcbjnjaa
open Go Go.RowKit
set_option maxRecDepth 100000 in
set_option linter.unusedSimpArgs false in
set_option maxHeartbeats 40000000 in
theorem spec_PublicOf (A0 : Option Addr) (n0 c0 : Nat) (z0 : List Int) (A1 : Option Addr) (n1 c1 : Nat) (z1 : List Int) (d : Int) (A2 : Option Addr) (n2 c2 : Nat) (zs : List Int) (A3 : Option Addr) (n3 c3 : Nat) (ts : List Int) (w : World) (h0 : Ints w A0 z0) (l0 : z0.length = n0 * 3) (m0 : n0 ≤ 2000000) (h1 : Ints w A1 z1) (l1 : z1.length = n1) (m1 : n1 ≤ 2000000) (h2 : Ints w A2 zs) (l2 : zs.length = n2) (m2 : n2 ≤ 2000000) (h3 : Ints w A3 ts) (l3 : ts.length = n3) (m3 : n3 ≤ 2000000) :
    Calls Try.prog 34 #[.agg #[.slice A0 n0 c0, .slice A1 n1 c1], .agg #[.int .i64 d, .slice A2 n2 c2, .slice A3 n3 c3]] w (Post_Public_bool (pubT z0 n0 z1 d zs ts) (pubC z0 n0 z1 d zs ts) (pubD z0 n0 z1 d zs ts) (decide (gOk z0 n0 z1 d zs ts)) w) := by
  have k0 := Bx3.start w 27 #[.slice A0 n0 c0, .slice A1 n1 c1] 33 #[.int .i64 d, .slice A2 n2 c2, .slice A3 n3 c3] 37 #[.slice none 0 0, .slice none 0 0, .slice none 0 0]
  have i0 := h0.bound
  have i1 := h1.bound
  have i2 := h2.bound
  have i3 := h3.bound
  have L0 := Lib.hid l0
  have L1 := Lib.hid l1
  have L2 := Lib.hid l2
  have L3 := Lib.hid l3
  clear h0 h1 h2 h3
  go_enter Try.func34, Try.ntmps34
  go_upto_region 1 with (fail)
  generalize hw0 : ((w.alloc (.cells #[.slice A0 n0 c0, .slice A1 n1 c1] 27)).alloc (.cells #[.int .i64 d, .slice A2 n2 c2, .slice A3 n3 c3] 33)).alloc (.cells #[.slice none 0 0, .slice none 0 0, .slice none 0 0] 37) = w0 at *
  clear hw0
  have x0 := (blk (i := 0) k0.two.arg rfl).1
  have x1 := (blk (i := 1) k0.two.arg rfl).1
  have y0 := (blk (i := 0) k0.two.res rfl).1
  have y1 := (blk (i := 1) k0.two.res rfl).1
  have y2 := (blk (i := 2) k0.two.res rfl).1
  have s0 := k0.two.low.size
  have cG := spec_GarbledOk A0 n0 c0 z0 A1 n1 c1 z1 d A2 n2 c2 zs A3 n3 c3 ts w0 ((i0.below k0.two.low).ints s0) l0 m0 ((i1.below k0.two.low).ints s0) l1 m1 ((i2.below k0.two.low).ints s0) l2 m2 ((i3.below k0.two.low).ints s0) l3 m3
  clear l0 l1 l2 l3
  by_cases hg : gOk z0 n0 z1 d zs ts
  case neg =>
    have E := Lib.hid (show pubT z0 n0 z1 d zs ts = [] ∧ pubC z0 n0 z1 d zs ts = [] ∧ pubD z0 n0 z1 d zs ts = [] ∧ decide (gOk z0 n0 z1 d zs ts) = false from ⟨if_neg hg, if_neg hg, if_neg hg, decide_eq_false hg⟩)
    rw [decide_eq_false hg] at cG
    clear hg
    go_wp2_with fail
    refine cG.mono ?_
    rintro e w1 ⟨rfl, hb1⟩
    have k1 := k0.next hb1
    obtain ⟨r0, f0⟩ := blk (i := 0) k1.out rfl
    obtain ⟨r1, f1⟩ := blk (i := 1) k1.out rfl
    obtain ⟨r2, f2⟩ := blk (i := 2) k1.out rfl
    have R := Lib.hid (heap_set (i := 2) (heap_set (i := 1) (heap_set (i := 0) k1.out (.slice none 0 0)) (.slice none 0 0)) (.slice none 0 0))
    have L := Lib.hid (((k1.two.low.setCell (p := ⟨w.heap.size + 1 + 1, 0, none⟩) (by simp; omega) (.slice none 0 0)).setCell (p := ⟨w.heap.size + 1 + 1, 1, none⟩) (by simp; omega) (.slice none 0 0)).setCell (p := ⟨w.heap.size + 1 + 1, 2, none⟩) (by simp; omega) (.slice none 0 0))
    clear cG k0 x0 x1 y0 y1 y2 hb1
    go_wp2_with fail
    refine bodyPost_ret (results_cell_tmp_row (P := Try.prog) rfl _ _ _ (w.heap.size + 1 + 1) 37 _ (0, 0) _ rfl rfl R.out Try.underlying37 rfl (by kernel_rfl)) rfl ?_
    rw [E.out.1, E.out.2.1, E.out.2.2.1, E.out.2.2.2]
    exact ⟨none, none, none, 0, 0, 0, 0, 0, 0, rfl, OwnPublic.nil _ _ _, L.out⟩
  have E := Lib.hid (show pubT z0 n0 z1 d zs ts = ts ∧ pubC z0 n0 z1 d zs ts = gbC z0 zs d n0 ∧ pubD z0 n0 z1 d zs ts = low1 (outV zs z1) ∧ decide (gOk z0 n0 z1 d zs ts) = true from ⟨if_pos hg, if_pos hg, if_pos hg, decide_eq_true hg⟩)
  rw [decide_eq_true hg] at cG
  have n6 := hg.1.1
  have hw := hg.1.2.2
  have e2 : n2 = n0 := by rw [← L2.out]; exact hg.2.2.1.2
  subst e2
  clear hg
  go_wp2_with fail
  refine cG.mono ?_
  rintro e w1 ⟨rfl, hb1⟩
  have k1 := k0.next hb1
  clear cG k0 x0 x1 y0 y1 y2 hb1
  have y2 := (blk (i := 2) k1.two.res rfl).1
  have lt1 := k1.lt
  have g0 := Grow.empty (Below.refl w1.heap.size w1)
  have k2 := k1.next g0.low
  have y2' := cell_on y2 g0.low
  have cj := (i3.below k2.two.low).ints k2.two.low.size
  go_wp2_with (first | (at_builtin; refine app_ints elemInt rfl _ _ rfl w1.heap.size _ 0 [] rfl g0.own A3 n3 c3 ts rfl cj L3.out (by unfold maxLen; omega) (by omega) g0.size ?_))
  intro v5 w5 ho5 hg5 hat5
  have g5 := g0.app ho5 hg5 (ys := ts) rfl
  have k5 := k1.next g5.low
  obtain ⟨Bt, mt, ct, rfl, rfl⟩ := ownsRow_slice g5.own
  have hP : Pb w1.heap.size w5.heap.size w1 (w5.alloc (.cells #[.slice Bt n3 ct, .slice none 0 0, .slice none 0 0] 37)) (.slice Bt n3 ct) (.slice none 0 0) (.slice none 0 0) n3 0 0 ts [] [] := by
    have hlt := fun q e => (g5.own.lt q e).2
    exact ⟨heap_alloc_new w5 _, (g5.alloc _).own, World.ownsRow_nil _ _ _ _, World.ownsRow_nil _ _ _ _, fun e => by have := hlt _ e; omega, by simp [Value.ownBlock], by simp [Value.ownBlock], (apart.nil _ _ _).symm, (apart.nil _ _ _).symm, apart.nil _ _ _, g5.size, (g5.alloc _).low, (g5.alloc _).size⟩
  have HP := Lib.hid hP
  have K1 := Lib.hid k1
  clear hP g5 g0 ho5 hg5 hat5 k2 k5 cj y2 y2' k1
  go_upto_region 4 with (fail)
  generalize hp : w5.heap.size = p at *
  generalize hw6 : w5.alloc (.cells #[.slice Bt n3 ct, .slice none 0 0, .slice none 0 0] 37) = w6 at *
  clear hw6 hp
  go_wp2_with fail
  go_loopw [7] (fun i wr => ∃ (k nc : Nat) (vc : Value), k ≤ n2 ∧ i = .int .i64 k ∧ Pb w1.heap.size p w1 wr (.slice Bt n3 ct) vc (.slice none 0 0) n3 nc 0 ts (gbC z0 zs d k) []) (fun i _ => n2 - (intOf i).toNat)
  case atStart => exact ⟨0, 0, _, Nat.zero_le _, rfl, HP.out⟩
  case round =>
    obtain ⟨k, nc, vc, hk, rfl, pb⟩ := hrel
    clear HP
    have kr := K1.out.next pb.low
    have sr := kr.two.low.size
    by_cases hlt : k < n2
    · have k0' : (0 : Int) ≤ k := by omega
      have k1' : (k : Int) < n2 := by omega
      have hmm : nc ≤ 6000 := by have h1 := pb.clen; rw [gbC_length] at h1; have := cnt_le z0 2 k; omega
      obtain ⟨q, o, rfl, hqb, e0, e1, e2⟩ := gateCells (i0.below kr.two.low) L0.out hlt
      obtain ⟨qz, oz, rfl, hqz, f0⟩ := (i2.below kr.two.low).at_ (j := k) (by rw [L2.out]; omega)
      have low0 := pb.low
      have x0 := (blk (i := 0) kr.two.arg rfl).1
      have y0 := (blk (i := 0) kr.two.res rfl).1
      have y1 := (blk (i := 1) kr.two.res rfl).1
      have Hy : Hid (∀ x, gk z0 k = 2 → lblI (zs.getD k 0) d (ga z0 k) = x → gbC z0 zs d (k + 1) = gbC z0 zs d k ++ [x]) := Lib.hid (fun x h hx => gbC_yes h hx)
      have Hn : Hid (¬ gk z0 k = 2 → gbC z0 zs d (k + 1) = gbC z0 zs d k) := Lib.hid (fun h => gbC_no h)
      generalize gk z0 k = kd at *
      generalize ga z0 k = ka at *
      generalize gb z0 k = kb at *
      generalize zs.getD k 0 = z at *
      go_upto_block 1 with (fail)
      go_cut [7] (fun i wx => i = .int .i64 k ∧ ∃ nc' vc', Pb w1.heap.size p w1 wx (.slice Bt n3 ct) vc' (.slice none 0 0) n3 nc' 0 ts (gbC z0 zs d (k + 1)) [])
      case first =>
        by_cases hk2 : kd = 2
        · obtain ⟨X, hX⟩ : ∃ x, lblI z d ka = x := ⟨_, rfl⟩
          have EZ := Lib.hid (Hy.out X hk2 hX)
          have cL := spec_LabelFor_is z d ka X hX
          subst hk2
          generalize gbC z0 zs d k = LL at *
          obtain ⟨Av, mv, cv, rfl, rfl⟩ := ownsRow_slice pb.oc
          have v1 := (blk (i := 1) pb.box rfl).1
          have pd := pb.drew
          have v1d : wr.drew.cell? ⟨p, 1, none⟩ = some (.slice Av nc cv) := v1
          have x0d : wr.drew.cell? ⟨w.heap.size, 0, none⟩ = some (.slice (some ⟨q, o, none⟩) n2 c0) := x0
          have y0d : wr.drew.cell? ⟨w.heap.size + 1, 0, none⟩ = some (.int .i64 d) := y0
          have y1d : wr.drew.cell? ⟨w.heap.size + 1, 1, none⟩ = some (.slice (some ⟨qz, oz, none⟩) n2 c2) := y1
          have e1d : wr.drew.cell? ⟨q, o + k * 3 + 1, none⟩ = some (.int .i64 ka) := e1
          have f0d : wr.drew.cell? ⟨qz, oz + k, none⟩ = some (.int .i64 z) := f0
          have p7 := pd.alloc (.cells #[.int .i64 X] 3)
          have v1a : (wr.alloc (.cells #[.int .i64 X] 3)).drew.cell? ⟨p, 1, none⟩ = some (.slice Av nc cv) := (blk (i := 1) p7.box rfl).1
          have hH : ∀ (g8 e8 : Nat) (w8 : World), w8.ownsRow w1.heap.size 3 1 (.slice (some ⟨g8, 0, none⟩) (nc + 1) e8) (nc + 1) (intVals LL ++ [.int .i64 X]) → (wr.drew.alloc (.cells #[.int .i64 X] 3)).grownBy w8 (Value.slice Av nc cv).ownBlock → ((Value.slice Av nc cv).ownBlock = some g8 ∨ g8 = wr.heap.size + 1) → Pb w1.heap.size p w1 (w8.setCell ⟨p, 1, none⟩ (.slice (some ⟨g8, 0, none⟩) (nc + 1) e8)) (.slice Bt n3 ct) (.slice (some ⟨g8, 0, none⟩) (nc + 1) e8) (.slice none 0 0) n3 (nc + 1) 0 ts (gbC z0 zs d (k + 1)) []    := fun _ _ _ h1 h2 h3 => by rw [EZ.out]; exact p7.putC h1 h2 h3 (by simp)
          have HH := Lib.hid hH
          clear Hy Hn hX pb hH EZ
          go_upto_region 8 with (fail)
          have X0 : ∀ W, Below w1.heap.size w1 W → W.cell? ⟨w.heap.size, 0, none⟩ = some (.slice (some ⟨q, o, none⟩) n2 c0) := fun W h => (World.cell?_of_block (a := ⟨w.heap.size, 0, none⟩) (h.block _ (show w.heap.size < w1.heap.size by omega))).trans (blk (i := 0) K1.out.two.arg rfl).1
          have X1 : ∀ W, Below w1.heap.size w1 W → W.cell? ⟨w.heap.size + 1, 0, none⟩ = some (.int .i64 d) := fun W h => (World.cell?_of_block (a := ⟨w.heap.size + 1, 0, none⟩) (h.block _ (show w.heap.size + 1 < w1.heap.size by omega))).trans (blk (i := 0) K1.out.two.res rfl).1
          have X2 : ∀ W, Below w1.heap.size w1 W → W.cell? ⟨w.heap.size + 1, 1, none⟩ = some (.slice (some ⟨qz, oz, none⟩) n2 c2) := fun W h => (World.cell?_of_block (a := ⟨w.heap.size + 1, 1, none⟩) (h.block _ (show w.heap.size + 1 < w1.heap.size by omega))).trans (blk (i := 1) K1.out.two.res rfl).1
          have X3 : ∀ W, Below w1.heap.size w1 W → W.cell? ⟨q, o + k * 3 + 1, none⟩ = some (.int .i64 ka) := fun W h => (World.cell?_of_block (a := ⟨q, o + k * 3 + 1, none⟩) (h.block _ (show q < w1.heap.size by omega))).trans ((World.cell?_of_block (a := ⟨q, o + k * 3 + 1, none⟩) (low0.block _ (show q < w1.heap.size by omega))).symm.trans e1)
          have X4 : ∀ W, Below w1.heap.size w1 W → W.cell? ⟨qz, oz + k, none⟩ = some (.int .i64 z) := fun W h => (World.cell?_of_block (a := ⟨qz, oz + k, none⟩) (h.block _ (show qz < w1.heap.size by omega))).trans ((World.cell?_of_block (a := ⟨qz, oz + k, none⟩) (low0.block _ (show qz < w1.heap.size by omega))).symm.trans f0)
          have HX0 := Lib.hid X0
          have HX1 := Lib.hid X1
          have HX2 := Lib.hid X2
          have HX3 := Lib.hid X3
          have HX4 := Lib.hid X4
          clear X0 X1 X2 X3 X4
          have low7 := Lib.hid p7.low
          have low7d : Below w1.heap.size w1 (wr.alloc (.cells #[.int .i64 X] 3)).drew := p7.low
          have lowd : Below w1.heap.size w1 wr.drew := pd.low
          clear x0 y0 y1 e0 e1 e2 f0 x0d y0d y1d e1d f0d low0
          refine wp_region_held_drew (S := fun w' => Below w1.heap.size w1 w') (by kernel_rfl) lowd (fun hHeld => ?_)
          refine wpAnyH_take (i := 0) (oi := { dst := some 33, op := Go.Op.fieldAddr 37 (Go.Operand.tmp 6) 1, type := 0, pos := "l18_garble.go:73", after := #[], guard := none }) (v := ?_) rfl (by kernel_rfl) (by kernel_rfl) (by kernel_rfl) (fun _ _ _ h => h) (Or.inl ⟨by rfl, ?_⟩) (by assumption) ?_
          rotate_left
          · intro W hSw
            have h0 := HX0.out W hSw
            have h1 := HX1.out W hSw
            have h2 := HX2.out W hSw
            have h3 := HX3.out W hSw
            have h4 := HX4.out W hSw
            clear hSw
            go_simp
            (try with_reducible rfl)
          (try simp only [Act.put, List.setIfInBounds_toArray, List.set_cons_zero, List.set_cons_succ])
          refine wpAnyH_take (i := 2) (oi := { dst := some 35, op := Go.Op.fieldAddr 33 (Go.Operand.tmp 3) 1, type := 0, pos := "l18_garble.go:73", after := #[], guard := none }) (v := ?_) rfl (by kernel_rfl) (by kernel_rfl) (by kernel_rfl) (fun _ _ _ h => h) (Or.inl ⟨by rfl, ?_⟩) (by assumption) ?_
          rotate_left
          · intro W hSw
            have h0 := HX0.out W hSw
            have h1 := HX1.out W hSw
            have h2 := HX2.out W hSw
            have h3 := HX3.out W hSw
            have h4 := HX4.out W hSw
            clear hSw
            go_simp
            (try with_reducible rfl)
          (try simp only [Act.put, List.setIfInBounds_toArray, List.set_cons_zero, List.set_cons_succ])
          refine wpAnyH_take (i := 3) (oi := { dst := some 36, op := Go.Op.load 25 (Go.Operand.tmp 35), type := 25, pos := "l18_garble.go:73", after := #[{ on := 2, ground := Go.Ground.data }], guard := none }) (v := ?_) rfl (by kernel_rfl) (by kernel_rfl) (by kernel_rfl) (fun _ _ _ h => h) (Or.inl ⟨by rfl, ?_⟩) (by assumption) ?_
          rotate_left
          · intro W hSw
            have h0 := HX0.out W hSw
            have h1 := HX1.out W hSw
            have h2 := HX2.out W hSw
            have h3 := HX3.out W hSw
            have h4 := HX4.out W hSw
            clear hSw
            go_simp
            (try with_reducible rfl)
          (try simp only [Act.put, List.setIfInBounds_toArray, List.set_cons_zero, List.set_cons_succ])
          refine wpAnyH_take (i := 4) (oi := { dst := some 37, op := Go.Op.move (Go.Operand.tmp 7), type := 3, pos := "l18_garble.go:73", after := #[], guard := none }) (v := ?_) rfl (by kernel_rfl) (by kernel_rfl) (by kernel_rfl) (fun _ _ _ h => h) (Or.inl ⟨by rfl, ?_⟩) (by assumption) ?_
          rotate_left
          · intro W hSw
            have h0 := HX0.out W hSw
            have h1 := HX1.out W hSw
            have h2 := HX2.out W hSw
            have h3 := HX3.out W hSw
            have h4 := HX4.out W hSw
            clear hSw
            go_simp
            (try with_reducible rfl)
          (try simp only [Act.put, List.setIfInBounds_toArray, List.set_cons_zero, List.set_cons_succ])
          refine wpAnyH_take (i := 5) (oi := { dst := some 38, op := Go.Op.indexAddr 25 (Go.Operand.tmp 36) (Go.Operand.tmp 37), type := 0, pos := "l18_garble.go:73", after := #[{ on := 3, ground := Go.Ground.data }, { on := 4, ground := Go.Ground.data }], guard := none }) (v := ?_) rfl (by kernel_rfl) (by kernel_rfl) (by kernel_rfl) (fun _ _ _ h => h) (Or.inl ⟨by rfl, ?_⟩) (by assumption) ?_
          rotate_left
          · intro W hSw
            have h0 := HX0.out W hSw
            have h1 := HX1.out W hSw
            have h2 := HX2.out W hSw
            have h3 := HX3.out W hSw
            have h4 := HX4.out W hSw
            clear hSw
            go_simp
            (try with_reducible rfl)
          (try simp only [Act.put, List.setIfInBounds_toArray, List.set_cons_zero, List.set_cons_succ])
          refine wpAnyH_take (i := 6) (oi := { dst := some 39, op := Go.Op.load 3 (Go.Operand.tmp 38), type := 3, pos := "l18_garble.go:73", after := #[{ on := 5, ground := Go.Ground.data }], guard := none }) (v := ?_) rfl (by kernel_rfl) (by kernel_rfl) (by kernel_rfl) (fun _ _ _ h => h) (Or.inl ⟨by rfl, ?_⟩) (by assumption) ?_
          rotate_left
          · intro W hSw
            have h0 := HX0.out W hSw
            have h1 := HX1.out W hSw
            have h2 := HX2.out W hSw
            have h3 := HX3.out W hSw
            have h4 := HX4.out W hSw
            clear hSw
            go_simp
            (try with_reducible rfl)
          (try simp only [Act.put, List.setIfInBounds_toArray, List.set_cons_zero, List.set_cons_succ])
          refine wpAnyH_take (i := 7) (oi := { dst := some 40, op := Go.Op.fieldAddr 33 (Go.Operand.tmp 3) 0, type := 0, pos := "l18_garble.go:73", after := #[], guard := none }) (v := ?_) rfl (by kernel_rfl) (by kernel_rfl) (by kernel_rfl) (fun _ _ _ h => h) (Or.inl ⟨by rfl, ?_⟩) (by assumption) ?_
          rotate_left
          · intro W hSw
            have h0 := HX0.out W hSw
            have h1 := HX1.out W hSw
            have h2 := HX2.out W hSw
            have h3 := HX3.out W hSw
            have h4 := HX4.out W hSw
            clear hSw
            go_simp
            (try with_reducible rfl)
          (try simp only [Act.put, List.setIfInBounds_toArray, List.set_cons_zero, List.set_cons_succ])
          refine wpAnyH_take (i := 8) (oi := { dst := some 41, op := Go.Op.load 3 (Go.Operand.tmp 40), type := 3, pos := "l18_garble.go:73", after := #[{ on := 7, ground := Go.Ground.data }], guard := none }) (v := ?_) rfl (by kernel_rfl) (by kernel_rfl) (by kernel_rfl) (fun _ _ _ h => h) (Or.inl ⟨by rfl, ?_⟩) (by assumption) ?_
          rotate_left
          · intro W hSw
            have h0 := HX0.out W hSw
            have h1 := HX1.out W hSw
            have h2 := HX2.out W hSw
            have h3 := HX3.out W hSw
            have h4 := HX4.out W hSw
            clear hSw
            go_simp
            (try with_reducible rfl)
          (try simp only [Act.put, List.setIfInBounds_toArray, List.set_cons_zero, List.set_cons_succ])
          refine wpAnyH_take (i := 9) (oi := { dst := some 42, op := Go.Op.fieldAddr 27 (Go.Operand.tmp 2) 0, type := 0, pos := "l18_garble.go:73", after := #[], guard := none }) (v := ?_) rfl (by kernel_rfl) (by kernel_rfl) (by kernel_rfl) (fun _ _ _ h => h) (Or.inl ⟨by rfl, ?_⟩) (by assumption) ?_
          rotate_left
          · intro W hSw
            have h0 := HX0.out W hSw
            have h1 := HX1.out W hSw
            have h2 := HX2.out W hSw
            have h3 := HX3.out W hSw
            have h4 := HX4.out W hSw
            clear hSw
            go_simp
            (try with_reducible rfl)
          (try simp only [Act.put, List.setIfInBounds_toArray, List.set_cons_zero, List.set_cons_succ])
          refine wpAnyH_take (i := 10) (oi := { dst := some 43, op := Go.Op.load 24 (Go.Operand.tmp 42), type := 24, pos := "l18_garble.go:73", after := #[{ on := 9, ground := Go.Ground.data }], guard := none }) (v := ?_) rfl (by kernel_rfl) (by kernel_rfl) (by kernel_rfl) (fun _ _ _ h => h) (Or.inl ⟨by rfl, ?_⟩) (by assumption) ?_
          rotate_left
          · intro W hSw
            have h0 := HX0.out W hSw
            have h1 := HX1.out W hSw
            have h2 := HX2.out W hSw
            have h3 := HX3.out W hSw
            have h4 := HX4.out W hSw
            clear hSw
            go_simp
            (try with_reducible rfl)
          (try simp only [Act.put, List.setIfInBounds_toArray, List.set_cons_zero, List.set_cons_succ])
          refine wpAnyH_take (i := 11) (oi := { dst := some 44, op := Go.Op.move (Go.Operand.tmp 7), type := 3, pos := "l18_garble.go:73", after := #[], guard := none }) (v := ?_) rfl (by kernel_rfl) (by kernel_rfl) (by kernel_rfl) (fun _ _ _ h => h) (Or.inl ⟨by rfl, ?_⟩) (by assumption) ?_
          rotate_left
          · intro W hSw
            have h0 := HX0.out W hSw
            have h1 := HX1.out W hSw
            have h2 := HX2.out W hSw
            have h3 := HX3.out W hSw
            have h4 := HX4.out W hSw
            clear hSw
            go_simp
            (try with_reducible rfl)
          (try simp only [Act.put, List.setIfInBounds_toArray, List.set_cons_zero, List.set_cons_succ])
          refine wpAnyH_take (i := 12) (oi := { dst := some 45, op := Go.Op.indexAddr 24 (Go.Operand.tmp 43) (Go.Operand.tmp 44), type := 0, pos := "l18_garble.go:73", after := #[{ on := 10, ground := Go.Ground.data }, { on := 11, ground := Go.Ground.data }], guard := none }) (v := ?_) rfl (by kernel_rfl) (by kernel_rfl) (by kernel_rfl) (fun _ _ _ h => h) (Or.inl ⟨by rfl, ?_⟩) (by assumption) ?_
          rotate_left
          · intro W hSw
            have h0 := HX0.out W hSw
            have h1 := HX1.out W hSw
            have h2 := HX2.out W hSw
            have h3 := HX3.out W hSw
            have h4 := HX4.out W hSw
            clear hSw
            go_simp
            (try with_reducible rfl)
          (try simp only [Act.put, List.setIfInBounds_toArray, List.set_cons_zero, List.set_cons_succ])
          refine wpAnyH_take (i := 13) (oi := { dst := some 46, op := Go.Op.fieldAddr 86 (Go.Operand.tmp 45) 1, type := 0, pos := "l18_garble.go:73", after := #[{ on := 12, ground := Go.Ground.data }], guard := none }) (v := ?_) rfl (by kernel_rfl) (by kernel_rfl) (by kernel_rfl) (fun _ _ _ h => h) (Or.inl ⟨by rfl, ?_⟩) (by assumption) ?_
          rotate_left
          · intro W hSw
            have h0 := HX0.out W hSw
            have h1 := HX1.out W hSw
            have h2 := HX2.out W hSw
            have h3 := HX3.out W hSw
            have h4 := HX4.out W hSw
            clear hSw
            go_simp
            (try with_reducible rfl)
          (try simp only [Act.put, List.setIfInBounds_toArray, List.set_cons_zero, List.set_cons_succ])
          refine wpAnyH_take (i := 14) (oi := { dst := some 47, op := Go.Op.load 3 (Go.Operand.tmp 46), type := 3, pos := "l18_garble.go:73", after := #[{ on := 13, ground := Go.Ground.data }], guard := none }) (v := ?_) rfl (by kernel_rfl) (by kernel_rfl) (by kernel_rfl) (fun _ _ _ h => h) (Or.inl ⟨by rfl, ?_⟩) (by assumption) ?_
          rotate_left
          · intro W hSw
            have h0 := HX0.out W hSw
            have h1 := HX1.out W hSw
            have h2 := HX2.out W hSw
            have h3 := HX3.out W hSw
            have h4 := HX4.out W hSw
            clear hSw
            go_simp
            (try with_reducible rfl)
          (try simp only [Act.put, List.setIfInBounds_toArray, List.set_cons_zero, List.set_cons_succ])
          clear HX0 HX1 HX2 HX3 HX4
          refine wpAnyH_ready (rs := [1, 15]) (by kernel_rfl) (by simp) ?_
          refine AllReadyH.cons (o := { dst := some 34, op := Go.Op.load 25 (Go.Operand.tmp 33), type := 25, pos := "l18_garble.go:73", after := #[{ on := 0, ground := Go.Ground.data }], guard := none }) rfl (fun K hK => ?_) (AllReadyH.cons (o := { dst := some 48, op := Go.Op.call { callee := Go.Callee.value (Go.Operand.func 16), args := #[Go.Operand.tmp 39, Go.Operand.tmp 41, Go.Operand.tmp 47], argTypes := #[3, 3, 3] }, type := 3, pos := "l18_garble.go:73", after := #[{ on := 6, ground := Go.Ground.data }, { on := 8, ground := Go.Ground.data }, { on := 14, ground := Go.Ground.data }], guard := none }) rfl (fun K hK => ?_) AllReadyH.nil)
          · skip
            go_wp2_with fail
            refine hK.out _ _ lowd (fun hHeld => ?_)
            clear hK K
            (try simp only [Act.put, List.setIfInBounds_toArray, List.set_cons_zero, List.set_cons_succ])
            refine wpAnyH_ready (rs := [15]) (by kernel_rfl) (by simp) ?_
            refine AllReadyH.cons (o := { dst := some 48, op := Go.Op.call { callee := Go.Callee.value (Go.Operand.func 16), args := #[Go.Operand.tmp 39, Go.Operand.tmp 41, Go.Operand.tmp 47], argTypes := #[3, 3, 3] }, type := 3, pos := "l18_garble.go:73", after := #[{ on := 6, ground := Go.Ground.data }, { on := 8, ground := Go.Ground.data }, { on := 14, ground := Go.Ground.data }], guard := none }) rfl (fun K hK => ?_) AllReadyH.nil
            (go_simp; go_at_call 16; (with_reducible refine (cL _).mono ?_); rintro e w7 ⟨rfl, rfl⟩)
            (try dsimp only)
            refine hK.out _ _ lowd (fun hHeld => ?_)
            clear hK K
            (try simp only [Act.put, List.setIfInBounds_toArray, List.set_cons_zero, List.set_cons_succ])
            refine wpAnyH_ready (rs := [16]) (by kernel_rfl) (by simp) ?_
            refine AllReadyH.cons (o := { dst := some 49, op := Go.Op.buildSlice 25 1 #[(0, Go.Operand.tmp 48)], type := 25, pos := "l18_garble.go:73", after := #[{ on := 15, ground := Go.Ground.data }], guard := none }) rfl (fun K hK => ?_) AllReadyH.nil
            go_simp
            (try dsimp only)
            refine hK.out _ _ low7d (fun hHeld => ?_)
            clear hK K
            (try simp only [Act.put, List.setIfInBounds_toArray, List.set_cons_zero, List.set_cons_succ])
            refine wpAnyH_ready (rs := [17]) (by kernel_rfl) (by simp) ?_
            refine AllReadyH.cons (o := { dst := some 50, op := Go.Op.call { callee := Go.Callee.builtin Go.Builtin.append, args := #[Go.Operand.tmp 34, Go.Operand.tmp 49], argTypes := #[25, 25] }, type := 25, pos := "l18_garble.go:73", after := #[{ on := 1, ground := Go.Ground.data }, { on := 16, ground := Go.Ground.data }, { on := 15, ground := Go.Ground.chain }], guard := none }) rfl (fun K hK => ?_) AllReadyH.nil
            refine app_step (e' := 3) elemInt (by rfl) _ _ (by rfl) w1.heap.size (.slice Av nc cv) nc (intVals LL) (by rfl) p7.oc wr.heap.size 1 1 _ (0, 0) (by rfl) (heap_alloc_new wr.drew _) (by rfl) (oneCell_i64 [_]) (by omega) (by unfold maxLen; omega) (by omega) p7.size (wr.heap.size + 1) (by simp) ?_
            intro g8 e8 w8 ho8 hg8 hat8 hl8
            have b8 := heap_grown p7.box hg8 p7.pc
            have b8c := (blk (i := 1) b8 rfl).1
            have b8f := (blk (i := 1) b8 rfl).2
            have low8 := low7.out.grown hg8 p7.size (fun q e => (p7.oc.lt q e).1)
            have H := HH.out _ _ _ ho8 hg8 hat8
            refine hK.out _ _ low8 (fun hHeld => ?_)
            clear hK K
            (try simp only [Act.put, List.setIfInBounds_toArray, List.set_cons_zero, List.set_cons_succ])
            refine wpAnyH_take (i := 18) (oi := { dst := some 51, op := Go.Op.fieldAddr 37 (Go.Operand.tmp 6) 1, type := 0, pos := "l18_garble.go:73", after := #[{ on := 0, ground := Go.Ground.phase }, { on := 1, ground := Go.Ground.phase }, { on := 2, ground := Go.Ground.phase }, { on := 3, ground := Go.Ground.phase }, { on := 4, ground := Go.Ground.phase }, { on := 5, ground := Go.Ground.phase }, { on := 6, ground := Go.Ground.phase }, { on := 7, ground := Go.Ground.phase }, { on := 8, ground := Go.Ground.phase }, { on := 9, ground := Go.Ground.phase }, { on := 10, ground := Go.Ground.phase }, { on := 11, ground := Go.Ground.phase }, { on := 12, ground := Go.Ground.phase }, { on := 13, ground := Go.Ground.phase }, { on := 14, ground := Go.Ground.phase }, { on := 15, ground := Go.Ground.phase }, { on := 16, ground := Go.Ground.phase }, { on := 17, ground := Go.Ground.phase }], guard := none }) (v := ?_) rfl (by kernel_rfl) (by kernel_rfl) (by kernel_rfl) (fun _ _ _ h => h) (Or.inl ⟨by rfl, ?_⟩) (by assumption) ?_
            rotate_left
            · intro W hSw
              clear hSw
              go_simp
              (try with_reducible rfl)
            (try simp only [Act.put, List.setIfInBounds_toArray, List.set_cons_zero, List.set_cons_succ])
            refine wpAnyH_ready (rs := [19]) (by kernel_rfl) (by simp) ?_
            refine AllReadyH.cons (o := { dst := none, op := Go.Op.store 25 (Go.Operand.tmp 51) (Go.Operand.tmp 50), type := 0, pos := "l18_garble.go:73", after := #[{ on := 18, ground := Go.Ground.data }, { on := 17, ground := Go.Ground.data }, { on := 17, ground := Go.Ground.chain }, { on := 0, ground := Go.Ground.phase }, { on := 1, ground := Go.Ground.phase }, { on := 2, ground := Go.Ground.phase }, { on := 3, ground := Go.Ground.phase }, { on := 4, ground := Go.Ground.phase }, { on := 5, ground := Go.Ground.phase }, { on := 6, ground := Go.Ground.phase }, { on := 7, ground := Go.Ground.phase }, { on := 8, ground := Go.Ground.phase }, { on := 9, ground := Go.Ground.phase }, { on := 10, ground := Go.Ground.phase }, { on := 11, ground := Go.Ground.phase }, { on := 12, ground := Go.Ground.phase }, { on := 13, ground := Go.Ground.phase }, { on := 14, ground := Go.Ground.phase }, { on := 15, ground := Go.Ground.phase }, { on := 16, ground := Go.Ground.phase }, { on := 17, ground := Go.Ground.phase }], guard := none }) rfl (fun K hK => ?_) AllReadyH.nil
            go_simp
            (try dsimp only)
            refine hK.out _ _ H.low (fun hHeld => ?_)
            clear hK K
            (try simp only [Act.put, List.setIfInBounds_toArray, List.set_cons_zero, List.set_cons_succ])
            refine wpAnyH_done (by kernel_rfl) ?_ _
            go_wp2_with fail
            go_meet
            exact ⟨rfl, _, _, H⟩
          · skip
            (go_simp; go_at_call 16; (with_reducible refine (cL _).mono ?_); rintro e w7 ⟨rfl, rfl⟩)
            (try dsimp only)
            refine hK.out _ _ lowd (fun hHeld => ?_)
            clear hK K
            (try simp only [Act.put, List.setIfInBounds_toArray, List.set_cons_zero, List.set_cons_succ])
            refine wpAnyH_ready (rs := [1, 16]) (by kernel_rfl) (by simp) ?_
            refine AllReadyH.cons (o := { dst := some 34, op := Go.Op.load 25 (Go.Operand.tmp 33), type := 25, pos := "l18_garble.go:73", after := #[{ on := 0, ground := Go.Ground.data }], guard := none }) rfl (fun K hK => ?_) (AllReadyH.cons (o := { dst := some 49, op := Go.Op.buildSlice 25 1 #[(0, Go.Operand.tmp 48)], type := 25, pos := "l18_garble.go:73", after := #[{ on := 15, ground := Go.Ground.data }], guard := none }) rfl (fun K hK => ?_) AllReadyH.nil)
            · skip
              go_wp2_with fail
              refine hK.out _ _ lowd (fun hHeld => ?_)
              clear hK K
              (try simp only [Act.put, List.setIfInBounds_toArray, List.set_cons_zero, List.set_cons_succ])
              refine wpAnyH_ready (rs := [16]) (by kernel_rfl) (by simp) ?_
              refine AllReadyH.cons (o := { dst := some 49, op := Go.Op.buildSlice 25 1 #[(0, Go.Operand.tmp 48)], type := 25, pos := "l18_garble.go:73", after := #[{ on := 15, ground := Go.Ground.data }], guard := none }) rfl (fun K hK => ?_) AllReadyH.nil
              go_simp
              (try dsimp only)
              refine hK.out _ _ low7d (fun hHeld => ?_)
              clear hK K
              (try simp only [Act.put, List.setIfInBounds_toArray, List.set_cons_zero, List.set_cons_succ])
              refine wpAnyH_ready (rs := [17]) (by kernel_rfl) (by simp) ?_
              refine AllReadyH.cons (o := { dst := some 50, op := Go.Op.call { callee := Go.Callee.builtin Go.Builtin.append, args := #[Go.Operand.tmp 34, Go.Operand.tmp 49], argTypes := #[25, 25] }, type := 25, pos := "l18_garble.go:73", after := #[{ on := 1, ground := Go.Ground.data }, { on := 16, ground := Go.Ground.data }, { on := 15, ground := Go.Ground.chain }], guard := none }) rfl (fun K hK => ?_) AllReadyH.nil
              refine app_step (e' := 3) elemInt (by rfl) _ _ (by rfl) w1.heap.size (.slice Av nc cv) nc (intVals LL) (by rfl) p7.oc wr.heap.size 1 1 _ (0, 0) (by rfl) (heap_alloc_new wr.drew _) (by rfl) (oneCell_i64 [_]) (by omega) (by unfold maxLen; omega) (by omega) p7.size (wr.heap.size + 1) (by simp) ?_
              intro g8 e8 w8 ho8 hg8 hat8 hl8
              have b8 := heap_grown p7.box hg8 p7.pc
              have b8c := (blk (i := 1) b8 rfl).1
              have b8f := (blk (i := 1) b8 rfl).2
              have low8 := low7.out.grown hg8 p7.size (fun q e => (p7.oc.lt q e).1)
              have H := HH.out _ _ _ ho8 hg8 hat8
              refine hK.out _ _ low8 (fun hHeld => ?_)
              clear hK K
              (try simp only [Act.put, List.setIfInBounds_toArray, List.set_cons_zero, List.set_cons_succ])
              refine wpAnyH_take (i := 18) (oi := { dst := some 51, op := Go.Op.fieldAddr 37 (Go.Operand.tmp 6) 1, type := 0, pos := "l18_garble.go:73", after := #[{ on := 0, ground := Go.Ground.phase }, { on := 1, ground := Go.Ground.phase }, { on := 2, ground := Go.Ground.phase }, { on := 3, ground := Go.Ground.phase }, { on := 4, ground := Go.Ground.phase }, { on := 5, ground := Go.Ground.phase }, { on := 6, ground := Go.Ground.phase }, { on := 7, ground := Go.Ground.phase }, { on := 8, ground := Go.Ground.phase }, { on := 9, ground := Go.Ground.phase }, { on := 10, ground := Go.Ground.phase }, { on := 11, ground := Go.Ground.phase }, { on := 12, ground := Go.Ground.phase }, { on := 13, ground := Go.Ground.phase }, { on := 14, ground := Go.Ground.phase }, { on := 15, ground := Go.Ground.phase }, { on := 16, ground := Go.Ground.phase }, { on := 17, ground := Go.Ground.phase }], guard := none }) (v := ?_) rfl (by kernel_rfl) (by kernel_rfl) (by kernel_rfl) (fun _ _ _ h => h) (Or.inl ⟨by rfl, ?_⟩) (by assumption) ?_
              rotate_left
              · intro W hSw
                clear hSw
                go_simp
                (try with_reducible rfl)
              (try simp only [Act.put, List.setIfInBounds_toArray, List.set_cons_zero, List.set_cons_succ])
              refine wpAnyH_ready (rs := [19]) (by kernel_rfl) (by simp) ?_
              refine AllReadyH.cons (o := { dst := none, op := Go.Op.store 25 (Go.Operand.tmp 51) (Go.Operand.tmp 50), type := 0, pos := "l18_garble.go:73", after := #[{ on := 18, ground := Go.Ground.data }, { on := 17, ground := Go.Ground.data }, { on := 17, ground := Go.Ground.chain }, { on := 0, ground := Go.Ground.phase }, { on := 1, ground := Go.Ground.phase }, { on := 2, ground := Go.Ground.phase }, { on := 3, ground := Go.Ground.phase }, { on := 4, ground := Go.Ground.phase }, { on := 5, ground := Go.Ground.phase }, { on := 6, ground := Go.Ground.phase }, { on := 7, ground := Go.Ground.phase }, { on := 8, ground := Go.Ground.phase }, { on := 9, ground := Go.Ground.phase }, { on := 10, ground := Go.Ground.phase }, { on := 11, ground := Go.Ground.phase }, { on := 12, ground := Go.Ground.phase }, { on := 13, ground := Go.Ground.phase }, { on := 14, ground := Go.Ground.phase }, { on := 15, ground := Go.Ground.phase }, { on := 16, ground := Go.Ground.phase }, { on := 17, ground := Go.Ground.phase }], guard := none }) rfl (fun K hK => ?_) AllReadyH.nil
              go_simp
              (try dsimp only)
              refine hK.out _ _ H.low (fun hHeld => ?_)
              clear hK K
              (try simp only [Act.put, List.setIfInBounds_toArray, List.set_cons_zero, List.set_cons_succ])
              refine wpAnyH_done (by kernel_rfl) ?_ _
              go_wp2_with fail
              go_meet
              exact ⟨rfl, _, _, H⟩
            · skip
              go_simp
              (try dsimp only)
              refine hK.out _ _ low7d (fun hHeld => ?_)
              clear hK K
              (try simp only [Act.put, List.setIfInBounds_toArray, List.set_cons_zero, List.set_cons_succ])
              refine wpAnyH_ready (rs := [1]) (by kernel_rfl) (by simp) ?_
              refine AllReadyH.cons (o := { dst := some 34, op := Go.Op.load 25 (Go.Operand.tmp 33), type := 25, pos := "l18_garble.go:73", after := #[{ on := 0, ground := Go.Ground.data }], guard := none }) rfl (fun K hK => ?_) AllReadyH.nil
              go_wp2_with fail
              refine hK.out _ _ low7d (fun hHeld => ?_)
              clear hK K
              (try simp only [Act.put, List.setIfInBounds_toArray, List.set_cons_zero, List.set_cons_succ])
              refine wpAnyH_ready (rs := [17]) (by kernel_rfl) (by simp) ?_
              refine AllReadyH.cons (o := { dst := some 50, op := Go.Op.call { callee := Go.Callee.builtin Go.Builtin.append, args := #[Go.Operand.tmp 34, Go.Operand.tmp 49], argTypes := #[25, 25] }, type := 25, pos := "l18_garble.go:73", after := #[{ on := 1, ground := Go.Ground.data }, { on := 16, ground := Go.Ground.data }, { on := 15, ground := Go.Ground.chain }], guard := none }) rfl (fun K hK => ?_) AllReadyH.nil
              refine app_step (e' := 3) elemInt (by rfl) _ _ (by rfl) w1.heap.size (.slice Av nc cv) nc (intVals LL) (by rfl) p7.oc wr.heap.size 1 1 _ (0, 0) (by rfl) (heap_alloc_new wr.drew _) (by rfl) (oneCell_i64 [_]) (by omega) (by unfold maxLen; omega) (by omega) p7.size (wr.heap.size + 1) (by simp) ?_
              intro g8 e8 w8 ho8 hg8 hat8 hl8
              have b8 := heap_grown p7.box hg8 p7.pc
              have b8c := (blk (i := 1) b8 rfl).1
              have b8f := (blk (i := 1) b8 rfl).2
              have low8 := low7.out.grown hg8 p7.size (fun q e => (p7.oc.lt q e).1)
              have H := HH.out _ _ _ ho8 hg8 hat8
              refine hK.out _ _ low8 (fun hHeld => ?_)
              clear hK K
              (try simp only [Act.put, List.setIfInBounds_toArray, List.set_cons_zero, List.set_cons_succ])
              refine wpAnyH_take (i := 18) (oi := { dst := some 51, op := Go.Op.fieldAddr 37 (Go.Operand.tmp 6) 1, type := 0, pos := "l18_garble.go:73", after := #[{ on := 0, ground := Go.Ground.phase }, { on := 1, ground := Go.Ground.phase }, { on := 2, ground := Go.Ground.phase }, { on := 3, ground := Go.Ground.phase }, { on := 4, ground := Go.Ground.phase }, { on := 5, ground := Go.Ground.phase }, { on := 6, ground := Go.Ground.phase }, { on := 7, ground := Go.Ground.phase }, { on := 8, ground := Go.Ground.phase }, { on := 9, ground := Go.Ground.phase }, { on := 10, ground := Go.Ground.phase }, { on := 11, ground := Go.Ground.phase }, { on := 12, ground := Go.Ground.phase }, { on := 13, ground := Go.Ground.phase }, { on := 14, ground := Go.Ground.phase }, { on := 15, ground := Go.Ground.phase }, { on := 16, ground := Go.Ground.phase }, { on := 17, ground := Go.Ground.phase }], guard := none }) (v := ?_) rfl (by kernel_rfl) (by kernel_rfl) (by kernel_rfl) (fun _ _ _ h => h) (Or.inl ⟨by rfl, ?_⟩) (by assumption) ?_
              rotate_left
              · intro W hSw
                clear hSw
                go_simp
                (try with_reducible rfl)
              (try simp only [Act.put, List.setIfInBounds_toArray, List.set_cons_zero, List.set_cons_succ])
              refine wpAnyH_ready (rs := [19]) (by kernel_rfl) (by simp) ?_
              refine AllReadyH.cons (o := { dst := none, op := Go.Op.store 25 (Go.Operand.tmp 51) (Go.Operand.tmp 50), type := 0, pos := "l18_garble.go:73", after := #[{ on := 18, ground := Go.Ground.data }, { on := 17, ground := Go.Ground.data }, { on := 17, ground := Go.Ground.chain }, { on := 0, ground := Go.Ground.phase }, { on := 1, ground := Go.Ground.phase }, { on := 2, ground := Go.Ground.phase }, { on := 3, ground := Go.Ground.phase }, { on := 4, ground := Go.Ground.phase }, { on := 5, ground := Go.Ground.phase }, { on := 6, ground := Go.Ground.phase }, { on := 7, ground := Go.Ground.phase }, { on := 8, ground := Go.Ground.phase }, { on := 9, ground := Go.Ground.phase }, { on := 10, ground := Go.Ground.phase }, { on := 11, ground := Go.Ground.phase }, { on := 12, ground := Go.Ground.phase }, { on := 13, ground := Go.Ground.phase }, { on := 14, ground := Go.Ground.phase }, { on := 15, ground := Go.Ground.phase }, { on := 16, ground := Go.Ground.phase }, { on := 17, ground := Go.Ground.phase }], guard := none }) rfl (fun K hK => ?_) AllReadyH.nil
              go_simp
              (try dsimp only)
              refine hK.out _ _ H.low (fun hHeld => ?_)
              clear hK K
              (try simp only [Act.put, List.setIfInBounds_toArray, List.set_cons_zero, List.set_cons_succ])
              refine wpAnyH_done (by kernel_rfl) ?_ _
              go_wp2_with fail
              go_meet
              exact ⟨rfl, _, _, H⟩
        · have EZ := Lib.hid (Hn.out hk2)
          have hbe : (kd == 2) = false := beq_eq_false_iff_ne.2 hk2
          have H := Lib.hid pb
          clear Hy Hn pb
          go_wp2_with fail
          go_meet
          exact ⟨rfl, nc, vc, by rw [EZ.out]; exact H.out⟩
      case rest =>
        obtain ⟨rfl, nc', vc', H⟩ := hcut
        replace H := Lib.hid H
        clear pb x0 y0 y1 e0 e1 e2 f0 Hy Hn
        go_wp2_with fail
        go_roundw
        case rel => exact ⟨k + 1, nc', vc', by omega, by go_num, H.out⟩
        case measure => simp [intOf]; omega
    · obtain rfl : k = n2 := by omega
      have HP := Lib.hid pb
      have x0 := (blk (i := 0) kr.two.arg rfl).1
      clear pb
      go_wp2_with fail
      clear x0
      go_loopw [8] (fun i wr => ∃ (t : Nat) (vd : Value), t ≤ n1 ∧ i = .int .i64 t ∧ Pb w1.heap.size p w1 wr (.slice Bt n3 ct) vc vd n3 nc t ts (gbC z0 zs d k) (low1 (outV zs (z1.take t)))) (fun i _ => n1 - (intOf i).toNat)
      case atStart => exact ⟨0, _, Nat.zero_le _, rfl, HP.out⟩
      case round =>
        clear kr sr HP
        obtain ⟨t, vd, ht, rfl, pb⟩ := hrel
        have kr := K1.out.next pb.low
        have x1 := (blk (i := 1) kr.two.arg rfl).1
        by_cases hlt2 : t < n1
        · have t0' : (0 : Int) ≤ t := by omega
          have t1' : (t : Int) < n1 := by omega
          have hlt' : t < z1.length := by rw [L1.out]; exact hlt2
          obtain ⟨q1, o1, rfl, -, ce⟩ := (i1.below kr.two.low).at_ hlt'
          obtain ⟨v0, v1⟩ := hw _ (gD_mem (d := 0) hlt')
          obtain ⟨qz, oz, rfl, -, f0⟩ := (i2.below kr.two.low).at_ (j := (z1.getD t 0).toNat) (by rw [L2.out]; omega)
          have y1 := (blk (i := 1) kr.two.res rfl).1
          have EZ := low1_take zs z1 hlt'
          rw [← i64_and_one] at EZ
          replace EZ := Lib.hid EZ
          generalize z1.getD t 0 = y at *
          generalize zs.getD y.toNat 0 = x at *
          generalize low1 (outV zs (z1.take t)) = DD at *
          obtain ⟨Ad, md, cd, rfl, rfl⟩ := ownsRow_slice pb.od
          obtain ⟨X, hX⟩ : ∃ r, bits .and .i64 x 1 = r := ⟨_, rfl⟩
          rw [hX] at EZ
          have v2 := (blk (i := 2) pb.box rfl).1
          have p7 := (pb.alloc (.cells #[.int .i64 X] 3)).drew
          have v2a := (blk (i := 2) p7.box rfl).1
          have hbk : (wr.alloc (.cells #[.int .i64 X] 3)).drew.heap[wr.heap.size]? = some (.cells #[.int .i64 X] 3 (0, 0)) := heap_alloc_new wr _
          clear pb
          go_upto_region 12 with (fail)
          go_region_law (first
            | (refine app_step (e' := 3) elemInt (by rfl) _ _ (by rfl) w1.heap.size (.slice Ad t cd) t (intVals DD) (by rfl) p7.od wr.heap.size 1 1 _ (0, 0) (by rfl) hbk (by rfl) (oneCell_i64 [_]) (by omega) (by unfold maxLen; omega) (by omega) p7.size (wr.heap.size + 1) (by simp) ?_; intro g8 e8 w8 ho8 hg8 hat8 hl8; (have b8 := heap_grown p7.box hg8 p7.pd); (have b8c := (blk (i := 2) b8 rfl).1); (have b8f := (blk (i := 2) b8 rfl).2)))
          all_goals
            have H : Hid (Pb w1.heap.size p w1 (w8.setCell ⟨p, 2, none⟩ (.slice (some ⟨g8, 0, none⟩) (t + 1) e8)) (.slice Bt n3 ct) vc (.slice (some ⟨g8, 0, none⟩) (t + 1) e8) n3 nc (t + 1) ts (gbC z0 zs d k) (DD ++ [X])) := Lib.hid (p7.putD ho8 hg8 hat8 (by simp))
            clear ho8 hg8 hat8 hl8 b8 b8c b8f p7 v2 v2a x1 y1 ce f0 hbk
            go_wp2_with fail
            go_roundw
            case rel => exact ⟨t + 1, _, by omega, by go_num, by rw [EZ.out]; exact H.out⟩
            case measure => simp [intOf]; omega
        · obtain rfl : t = n1 := by omega
          rw [List.take_of_length_le (by rw [L1.out]; exact Nat.le_refl _)] at pb
          have sb := pb.size
          obtain ⟨B1, m1', c1', rfl, rfl⟩ := ownsRow_slice pb.oc
          obtain ⟨B2, m2', c2', rfl, rfl⟩ := ownsRow_slice pb.od
          have v0 := (blk (i := 0) pb.box rfl).1
          have v1 := (blk (i := 1) pb.box rfl).1
          have v2 := (blk (i := 2) pb.box rfl).1
          obtain ⟨r0, f0⟩ := blk (i := 0) kr.out rfl
          obtain ⟨r1, f1⟩ := blk (i := 1) kr.out rfl
          obtain ⟨r2, f2⟩ := blk (i := 2) kr.out rfl
          have R := Lib.hid (heap_set (i := 2) (heap_set (i := 1) (heap_set (i := 0) kr.out (.slice Bt n3 ct)) (.slice B1 nc c1')) (.slice B2 t c2'))
          have L := Lib.hid (((kr.two.low.setCell (p := ⟨w.heap.size + 1 + 1, 0, none⟩) (by simp; omega) (.slice Bt n3 ct)).setCell (p := ⟨w.heap.size + 1 + 1, 1, none⟩) (by simp; omega) (.slice B1 nc c1')).setCell (p := ⟨w.heap.size + 1 + 1, 2, none⟩) (by simp; omega) (.slice B2 t c2'))
          have OO : OwnPublic w1.heap.size wr.heap.size wr (.slice Bt n3 ct) (.slice B1 nc c1') (.slice B2 t c2') n3 nc t ts (gbC z0 zs d k) (low1 (outV zs z1)) := ⟨OwnA.of_own pb.ot, OwnA.of_own pb.oc, OwnA.of_own pb.od, pb.atc, pb.atd, pb.acd⟩
          have O := Lib.hid ((((OO.setFar (g := w.heap.size + 1 + 1) (i := 0) lt1 (.slice Bt n3 ct)).setFar (g := w.heap.size + 1 + 1) (i := 1) lt1 (.slice B1 nc c1')).setFar (g := w.heap.size + 1 + 1) (i := 2) lt1 (.slice B2 t c2')).wide (lo' := w.heap.size) (by omega) (Nat.le_refl _))
          clear OO pb
          go_wp2_with fail
          refine bodyPost_ret (results_cell_tmp_row (P := Try.prog) rfl _ _ _ (w.heap.size + 1 + 1) 37 _ (0, 0) _ rfl rfl R.out Try.underlying37 rfl (by kernel_rfl)) rfl ?_
          rw [E.out.1, E.out.2.1, E.out.2.2.1, E.out.2.2.2]
          exact ⟨Bt, B1, B2, n3, nc, t, ct, c1', c2', rfl, O.out.wide (Nat.le_refl _) (by simp), L.out⟩
end Go.Proofs.Ytfpcjgolcbjnjaa
