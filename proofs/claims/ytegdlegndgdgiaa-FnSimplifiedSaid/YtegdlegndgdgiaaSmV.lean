/- Simplification: Simplify, the model's. No condition. -/
import Derived.Test.YtegdlegndgdgiaaProg
import Derived.Test.YtegdlegndgdgiaaSmU
import Derived.Test.YtegdlegndgdgiaaS1
namespace Go.Proofs.Ytegdlegndgdgiaa
open Go Go.RowKit
/-- The two boxes, what lies between, and the gates read. -/
theorem gate_cells {B n k : Nat} {w : World} {A : Option Addr} {z : List Int} (h : IntsB B w A z) (hl : z.length = n * 3) (hk : k < n) :
    ∃ q o, A = some ⟨q, o, none⟩ ∧ q < B ∧ w.cell? ⟨q, o + k * 3, none⟩ = some (.int .i64 (gk z k)) ∧ w.cell? ⟨q, o + k * 3 + 1, none⟩ = some (.int .i64 (ga z k)) ∧ w.cell? ⟨q, o + k * 3 + 2, none⟩ = some (.int .i64 (gb z k)) := by
  obtain ⟨q, o, e, hb, hc⟩ := h (by omega)
  exact ⟨q, o, e, hb, hc (k * 3) (by omega), hc (k * 3 + 1) (by omega), hc (k * 3 + 2) (by omega)⟩
set_option maxRecDepth 100000 in
set_option maxHeartbeats 4000000 in
theorem spec_Simplify (A0 : Option Addr) (n0 c0 : Nat) (z0 : List Int) (A1 : Option Addr) (n1 c1 : Nat) (z1 : List Int) (w : World) (h0 : Ints w A0 z0) (l0 : z0.length = n0 * 3) (m0 : n0 ≤ 2000000) (h1 : Ints w A1 z1) (l1 : z1.length = n1) (m1 : n1 ≤ 2000000) :
    Calls Try.prog 57 #[.agg #[.slice A0 n0 c0, .slice A1 n1 c1]] w (Post_Circuit (simZ z0 n0 z1) (simO z0 n0 z1) w) := by
  have k0 := Bx2.start w 31 #[.slice A0 n0 c0, .slice A1 n1 c1] 31 #[.slice none 0 0, .slice none 0 0]
  have i0 := h0.bound
  have i1 := h1.bound
  have L0 := Lib.hid l0
  have L1 := Lib.hid l1
  clear h0 h1 l0 l1
  have cK := fun r hr W j0 j1 => spec_CircuitOk A0 n0 c0 z0 A1 n1 c1 z1 r hr W j0 L0.out (by omega) j1 L1.out (by omega)
  go_enter Try.func57, Try.ntmps57
  go_wp2_with fail
  generalize hw0 : (w.alloc (.cells #[.slice A0 n0 c0, .slice A1 n1 c1] 31)).alloc (.cells #[.slice none 0 0, .slice none 0 0] 31) = w0 at *
  clear hw0
  have x0 := (blk (i := 0) k0.arg rfl).1
  have x1 := (blk (i := 1) k0.arg rfl).1
  have j0 := (i0.below k0.low).ints k0.low.size
  have j1 := (i1.below k0.low).ints k0.low.size
  by_cases hc : cirOk z0 n0 z1
  case neg =>
    have E := Lib.hid (sim_no hc)
    replace cK := cK false (decide_eq_false hc) w0 j0 j1
    clear hc
    go_wp2_with fail
    refine cK.mono ?_
    rintro e w1 ⟨rfl, hb1⟩
    have k1 := k0.next hb1
    have y0 := (blk (i := 0) k1.arg rfl).1
    have y1 := (blk (i := 1) k1.arg rfl).1
    have cC := spec_l14Copy A0 A1 c0 c1 n0 n1 z0 z1 w1 (Ints.below j0 hb1) L0.out m0 (Ints.below j1 hb1) L1.out m1
    clear cK k0 x0 x1 j0 j1 hb1 i0 i1
    go_wp2_with fail
    refine cC.mono ?_
    rintro e w2 ⟨B0, B1, p0, p1, d0, d1, rfl, o0, o1, ap, hb2⟩
    have k2 := k1.next hb2
    have hs := k1.lt
    have hs2 := hb2.size
    obtain ⟨r0, f0⟩ := blk (i := 0) k2.res rfl
    obtain ⟨r1, f1⟩ := blk (i := 1) k2.res rfl
    have R := Lib.hid (heap_set (i := 1) (heap_set (i := 0) k2.res (.slice B0 p0 d0)) (.slice B1 p1 d1))
    have O := Lib.hid (show OwnCircuit w.heap.size w2.heap.size ((w2.setCell ⟨w.heap.size + 1, 0, none⟩ (.slice B0 p0 d0)).setCell ⟨w.heap.size + 1, 1, none⟩ (.slice B1 p1 d1)) (.slice B0 p0 d0) (.slice B1 p1 d1) p0 p1 z0 z1 from ⟨(((OwnA.of_own o0.own).setFar hs _).setFar hs _).wide (by omega) (Nat.le_refl _), (((OwnA.of_own o1.own).setFar hs _).setFar hs _).wide (by omega) (Nat.le_refl _), ap⟩)
    have L := Lib.hid ((k2.low.setCell (p := ⟨w.heap.size + 1, 0, none⟩) (by simp) (.slice B0 p0 d0)).setCell (p := ⟨w.heap.size + 1, 1, none⟩) (by simp) (.slice B1 p1 d1))
    clear o0 o1 ap hb2 cC k1 y0 y1
    go_wp2_with fail
    refine bodyPost_ret (results_cell_row (P := Try.prog) rfl _ _ (w.heap.size + 1) 31 _ (0, 0) _ rfl R.out Try.underlying31 rfl (by kernel_rfl)) rfl ?_
    rw [E.out.1, E.out.2]
    exact ⟨B0, B1, p0, p1, d0, d1, rfl, O.out.wide (Nat.le_refl _) (by simp), L.out⟩
  have hb80 : allBit (List.replicate 80 0) := fun x hx => by rw [(List.mem_replicate.1 hx).2]; decide
  have HE := Lib.hid (And.intro (show simZ z0 n0 z1 = (simA z0 n0).1 from if_pos hc) (show simO z0 n0 z1 = outV (simA z0 n0).2 z1 from if_pos hc))
  have HG := Lib.hid hc
  have n6 : n0 ≤ 6000 := hc.1
  replace cK := cK true (decide_eq_true hc) w0 j0 j1
  clear hc
  go_wp2_with fail
  refine cK.mono ?_
  rintro e w1 ⟨rfl, hb1⟩
  have k1 := k0.next hb1
  have i01 := (i0.below k1.low).ints k1.low.size
  have i11 := (i1.below k1.low).ints k1.low.size
  have bg := heap_alloc_new w1 (.cells #[.slice none 0 0, .slice none 0 0] 31)
  have al1 := below_alloc w1 (.cells #[.slice none 0 0, .slice none 0 0] 31)
  have hc1 : Cir w1.heap.size w1.heap.size (w1.alloc (.cells #[.slice none 0 0, .slice none 0 0] 31)) (.slice none 0 0) ⟨[.slice none 0 0], 31⟩ 0 [] := ⟨bg, World.ownsRow_nil _ _ _ _, by simp [Value.ownBlock]⟩
  have M0 : Mk w1.heap.size w1.heap.size w1 ((w1.alloc (.cells #[.slice none 0 0, .slice none 0 0] 31)).alloc (.cells #[] 3)) (.slice none 0 0) (.slice none 0 0) (.slice (some ⟨(w1.alloc (.cells #[.slice none 0 0, .slice none 0 0] 31)).heap.size, 0, none⟩) 0 0) 0 0 0 [] [] [] :=
    ⟨hc1.alloc _, ⟨World.ownsRow_nil _ _ _ _, by simp [Value.ownBlock], apart.nil _ _ _⟩, (Wl.fresh (us := []) hc1 (own_nil (heap_alloc_new _ _) (Nat.le_refl _)) (Nat.le_refl _)).mono al1.size, apart.nil _ _ _, low_alloc al1 _, by simp; omega, Nat.le_refl _⟩
  have sz1 : (w1.alloc (.cells #[.slice none 0 0, .slice none 0 0] 31)).heap.size = w1.heap.size + 1 := by simp
  rw [sz1] at M0
  have S0 := Lib.hid M0
  have S1 := Lib.hid (SimAt.start (List.replicate 80 0) z0)
  have y0 := (blk (i := 0) k1.arg rfl).1
  have y1 := (blk (i := 1) k1.arg rfl).1
  have K1 := Lib.hid k1
  have hlt1 := k1.lt
  clear M0 hc1 bg al1 cK k0 x0 x1 j0 j1 hb1 sz1
  go_wp2_with fail
  go_loopw [4, 5] (fun s i wr => ∃ (k m : Nat) (v : Value), k ≤ n0 ∧ i = .int .i64 k ∧ Mk w1.heap.size w1.heap.size w1 wr v (.slice none 0 0) s m 0 k (simA z0 k).1 [] (simA z0 k).2 ∧ SimAt (List.replicate 80 0) z0 k m) (fun _ i _ => n0 - (intOf i).toNat)
  case atStart => exact ⟨0, 0, _, Nat.zero_le _, rfl, S0.out, S1.out⟩
  case round =>
    obtain ⟨k, m, v, hk, rfl, mk, hS⟩ := hrel
    clear S0 S1
    have a0 := cell_on y0 mk.low
    have a1 := cell_on y1 mk.low
    by_cases hlt : k < n0
    · have j0 : (0 : Int) ≤ k := by omega
      have j1 : (k : Int) < n0 := by omega
      obtain ⟨q, o, rfl, hq, e0, e1, e2⟩ := gate_cells ((Ints.bound i01).below mk.low) L0.out hlt
      have ok := HG.out.2.1 k hlt
      obtain ⟨m', hm1, hm2, hS'⟩ := hS.step HG.out.2.1 hb80 hlt
      have hm := hS.le
      have HN := Lib.hid hS'
      have HL := Lib.hid hS'.len
      have HA := Lib.hid (show simA z0 (k + 1) = ((simG (simA z0 k).1 (simA z0 k).2 (gk z0 k) (ga z0 k) (gb z0 k)).1, (simA z0 k).2 ++ [(simG (simA z0 k).1 (simA z0 k).2 (gk z0 k) (ga z0 k) (gb z0 k)).2]) from rfl)
      have hv := hS.val
      have hg := hS.ok
      rw [HA.out] at HL
      have tl := hS.tl
      generalize gk z0 k = kd at *
      generalize ga z0 k = a at *
      generalize gb z0 k = b at *
      generalize (simA z0 k).1 = Y at *
      generalize (simA z0 k).2 = TT at *
      clear hS hS'
      have al := below_alloc wr (.cells #[.int .i64 kd, .int .i64 a, .int .i64 b] 45)
      have bb := heap_alloc_new wr (.cells #[.int .i64 kd, .int .i64 a, .int .i64 b] 45)
      have mk1 := mk.alloc (.cells #[.int .i64 kd, .int .i64 a, .int .i64 b] 45)
      have hgl := mk.cir.lt
      have hvl := mk.cir.own.lt
      have ng : wr.heap.size ≠ w1.heap.size := by omega
      have nv : v.ownBlock ≠ some wr.heap.size := fun e => by have := (hvl _ e).2; omega
      rcases ok with ⟨rfl, ha, rfl⟩ | ⟨rfl, ha, rfl⟩ | ⟨rfl | rfl, ha, hb⟩ | ⟨rfl, ha, rfl⟩
      · have cG := spec_l16Gate w1.heap.size w1.heap.size m v _ Y 1 a 0 _ mk1.cir mk1.size (by omega)
        have HA := Lib.hid (HA.out.trans (show _ = ((ordG Y 1 a 0).1, TT ++ [(ordG Y 1 a 0).2]) from rfl))
        have HL := Lib.hid (show (ordG Y 1 a 0).1.length = m' * 3 from HL.out)
        clear hv hg
        go_wp2_with fail
        refine cG.mono ?_
        rintro e w9 ⟨v9, n9, rfl, h8, h7, h9, t9⟩
        have em : n9 = m' := by have := HL.out; have := h9.len; omega
        subst em
        have mk2 := mk1.next h9 t9
        have sz2 := mk2.size
        clear h9 t9 mk1 mk al bb cG
        obtain ⟨As, ms, cs, rfl, rfl⟩ := ownsRow_slice mk2.wl.own
        go_wp2_with (first | (at_builtin; refine app_list (e' := 3) elemInt rfl _ _ rfl w1.heap.size _ k (intVals TT) rfl (mk2.alloc (.cells #[.int .i64 (ordG Y 1 a 0).2] 3)).wl.own w9.heap.size 1 1 _ (0, 0) rfl (heap_alloc_new w9 _) rfl (oneCell_i64 [_]) (by omega) (by unfold maxLen; omega) (by omega) (by simp; omega) (w9.heap.size + 1) (by simp) ?_))
        intro g5 c5 w5 ho5 hg5 hat5 _
        have H := Lib.hid (mk2.app ho5 hg5 hat5)
        clear mk2 ho5 hg5 hat5
        go_wp2_with fail
        go_roundw
        case rel => exact ⟨k + 1, n9, v9, by omega, by go_num, by rw [HA.out]; exact H.out, HN.out⟩
        case measure => simp [intOf]; omega
      · have cG := spec_l16Gate w1.heap.size w1.heap.size m v _ Y 2 a 0 _ mk1.cir mk1.size (by omega)
        have HA := Lib.hid (HA.out.trans (show _ = ((ordG Y 2 a 0).1, TT ++ [(ordG Y 2 a 0).2]) from rfl))
        have HL := Lib.hid (show (ordG Y 2 a 0).1.length = m' * 3 from HL.out)
        clear hv hg
        go_wp2_with fail
        refine cG.mono ?_
        rintro e w9 ⟨v9, n9, rfl, h8, h7, h9, t9⟩
        have em : n9 = m' := by have := HL.out; have := h9.len; omega
        subst em
        have mk2 := mk1.next h9 t9
        have sz2 := mk2.size
        clear h9 t9 mk1 mk al bb cG
        obtain ⟨As, ms, cs, rfl, rfl⟩ := ownsRow_slice mk2.wl.own
        go_wp2_with (first | (at_builtin; refine app_list (e' := 3) elemInt rfl _ _ rfl w1.heap.size _ k (intVals TT) rfl (mk2.alloc (.cells #[.int .i64 (ordG Y 2 a 0).2] 3)).wl.own w9.heap.size 1 1 _ (0, 0) rfl (heap_alloc_new w9 _) rfl (oneCell_i64 [_]) (by omega) (by unfold maxLen; omega) (by omega) (by simp; omega) (w9.heap.size + 1) (by simp) ?_))
        intro g5 c5 w5 ho5 hg5 hat5 _
        have H := Lib.hid (mk2.app ho5 hg5 hat5)
        clear mk2 ho5 hg5 hat5
        go_wp2_with fail
        go_roundw
        case rel => exact ⟨k + 1, n9, v9, by omega, by go_num, by rw [HA.out]; exact H.out, HN.out⟩
        case measure => simp [intOf]; omega
      · obtain ⟨u1, u2, _⟩ := hv a.toNat (by omega)
        obtain ⟨u3, u4, _⟩ := hv b.toNat (by omega)
        obtain ⟨ua, hua⟩ : ∃ ua : Nat, TT.getD a.toNat 0 = (ua : Int) := Int.eq_ofNat_of_zero_le u1
        obtain ⟨ub, hub⟩ : ∃ ub : Nat, TT.getD b.toNat 0 = (ub : Int) := Int.eq_ofNat_of_zero_le u3
        rw [hua] at u2
        rw [hub] at u4
        have cG := spec_l16Xor w1.heap.size w1.heap.size m v _ Y hg ua ub (by omega) (by omega) _ mk1.drew.cir mk1.drew.size (by omega)
        obtain ⟨As, ms, cs, rfl, rfl⟩ := ownsRow_slice mk1.wl.own
        obtain ⟨qs, rfl, _⟩ := own_addr mk1.wl.own (by omega)
        have ca := (mk1.wl.at_ (j := a.toNat) (by omega)).1
        have cb := (mk1.wl.at_ (j := b.toNat) (by omega)).1
        rw [hua] at ca
        rw [hub] at cb
        have g1 := (blk (i := 1) (u := .int .i64 a) bb rfl).1
        have g2 := (blk (i := 2) (u := .int .i64 b) bb rfl).1
        have q0 : (0 : Int) ≤ a := by omega
        have q1 : a < (k : Int) := by omega
        have q2 : (0 : Int) ≤ b := by omega
        have q3 : b < (k : Int) := by omega
        have nsg : qs ≠ w1.heap.size := fun e => mk1.wl.ne (by rw [e]; rfl)
        have nsv : v.ownBlock ≠ some qs := fun e => mk1.wl.ap qs rfl e
        have HA := Lib.hid (HA.out.trans (show _ = ((xorG Y ua ub).1, TT ++ [(xorG Y ua ub).2]) by rw [← hua, ← hub]; rfl))
        have HL := Lib.hid (show (xorG Y ua ub).1.length = m' * 3 by rw [← hua, ← hub]; exact HL.out)
        clear hv hg
        go_upto_region 13 with (fail)
        generalize wr.alloc (.cells #[.int .i64 3, .int .i64 a, .int .i64 b] 45) = wq at *
        have da : wq.drew.cell? ⟨qs, a.toNat, none⟩ = some (.int .i64 ua) := ca
        have db : wq.drew.cell? ⟨qs, b.toNat, none⟩ = some (.int .i64 ub) := cb
        have d1 : wq.drew.cell? ⟨wr.heap.size, 1, none⟩ = some (.int .i64 a) := g1
        have d2 : wq.drew.cell? ⟨wr.heap.size, 2, none⟩ = some (.int .i64 b) := g2
        go_region_held3 (fun w' => w'.cell? ⟨qs, a.toNat, none⟩ = some (.int .i64 ua) ∧ w'.cell? ⟨qs, b.toNat, none⟩ = some (.int .i64 ub) ∧ w'.cell? ⟨wr.heap.size, 1, none⟩ = some (.int .i64 a) ∧ w'.cell? ⟨wr.heap.size, 2, none⟩ = some (.int .i64 b)) (first | exact ⟨da, db, d1, d2⟩ | exact ⟨za, zb, z1', z2'⟩) (first
          | (go_at_call 114; (with_reducible refine cG.mono ?_); rintro e9 w9 ⟨v9, n9, rfl, h8, h7, h9, t9⟩; (have za := t9.cell da nsg nsv); (have zb := t9.cell db nsg nsv); (have z1' := t9.cell d1 ng nv); (have z2' := t9.cell d2 ng nv)))
        have em : n9 = m' := by have := HL.out; have := h9.len; omega
        subst em
        have mk2 := mk1.drew.next h9 t9
        have sz2 := mk2.size
        clear h9 t9 mk1 mk al bb cG ca cb g1 g2 da db d1 d2 za zb z1' z2'
        go_wp2_with (first | (at_builtin; refine app_list (e' := 3) elemInt rfl _ _ rfl w1.heap.size _ k (intVals TT) rfl (mk2.alloc (.cells #[.int .i64 (xorG Y ua ub).2] 3)).wl.own w9.heap.size 1 1 _ (0, 0) rfl (heap_alloc_new w9 _) rfl (oneCell_i64 [_]) (by omega) (by unfold maxLen; omega) (by omega) (by simp; omega) (w9.heap.size + 1) (by simp) ?_))
        intro g5 c5 w5 ho5 hg5 hat5 _
        have H := Lib.hid (mk2.app ho5 hg5 hat5)
        clear mk2 ho5 hg5 hat5
        go_wp2_with fail
        go_roundw
        case rel => exact ⟨k + 1, n9, v9, by omega, by go_num, by rw [HA.out]; exact H.out, HN.out⟩
        case measure => simp [intOf]; omega
      · obtain ⟨u1, u2, _⟩ := hv a.toNat (by omega)
        obtain ⟨u3, u4, _⟩ := hv b.toNat (by omega)
        obtain ⟨ua, hua⟩ : ∃ ua : Nat, TT.getD a.toNat 0 = (ua : Int) := Int.eq_ofNat_of_zero_le u1
        obtain ⟨ub, hub⟩ : ∃ ub : Nat, TT.getD b.toNat 0 = (ub : Int) := Int.eq_ofNat_of_zero_le u3
        rw [hua] at u2
        rw [hub] at u4
        have cG := spec_l16And w1.heap.size w1.heap.size m v _ Y hg ua ub (by omega) (by omega) _ mk1.drew.cir mk1.drew.size (by omega)
        obtain ⟨As, ms, cs, rfl, rfl⟩ := ownsRow_slice mk1.wl.own
        obtain ⟨qs, rfl, _⟩ := own_addr mk1.wl.own (by omega)
        have ca := (mk1.wl.at_ (j := a.toNat) (by omega)).1
        have cb := (mk1.wl.at_ (j := b.toNat) (by omega)).1
        rw [hua] at ca
        rw [hub] at cb
        have g1 := (blk (i := 1) (u := .int .i64 a) bb rfl).1
        have g2 := (blk (i := 2) (u := .int .i64 b) bb rfl).1
        have q0 : (0 : Int) ≤ a := by omega
        have q1 : a < (k : Int) := by omega
        have q2 : (0 : Int) ≤ b := by omega
        have q3 : b < (k : Int) := by omega
        have nsg : qs ≠ w1.heap.size := fun e => mk1.wl.ne (by rw [e]; rfl)
        have nsv : v.ownBlock ≠ some qs := fun e => mk1.wl.ap qs rfl e
        have HA := Lib.hid (HA.out.trans (show _ = ((andG Y ua ub).1, TT ++ [(andG Y ua ub).2]) by rw [← hua, ← hub]; rfl))
        have HL := Lib.hid (show (andG Y ua ub).1.length = m' * 3 by rw [← hua, ← hub]; exact HL.out)
        clear hv hg
        go_upto_region 15 with (fail)
        generalize wr.alloc (.cells #[.int .i64 4, .int .i64 a, .int .i64 b] 45) = wq at *
        have da : wq.drew.cell? ⟨qs, a.toNat, none⟩ = some (.int .i64 ua) := ca
        have db : wq.drew.cell? ⟨qs, b.toNat, none⟩ = some (.int .i64 ub) := cb
        have d1 : wq.drew.cell? ⟨wr.heap.size, 1, none⟩ = some (.int .i64 a) := g1
        have d2 : wq.drew.cell? ⟨wr.heap.size, 2, none⟩ = some (.int .i64 b) := g2
        go_region_held3 (fun w' => w'.cell? ⟨qs, a.toNat, none⟩ = some (.int .i64 ua) ∧ w'.cell? ⟨qs, b.toNat, none⟩ = some (.int .i64 ub) ∧ w'.cell? ⟨wr.heap.size, 1, none⟩ = some (.int .i64 a) ∧ w'.cell? ⟨wr.heap.size, 2, none⟩ = some (.int .i64 b)) (first | exact ⟨da, db, d1, d2⟩ | exact ⟨za, zb, z1', z2'⟩) (first
          | (go_at_call 115; (with_reducible refine cG.mono ?_); rintro e9 w9 ⟨v9, n9, rfl, h8, h7, h9, t9⟩; (have za := t9.cell da nsg nsv); (have zb := t9.cell db nsg nsv); (have z1' := t9.cell d1 ng nv); (have z2' := t9.cell d2 ng nv)))
        have em : n9 = m' := by have := HL.out; have := h9.len; omega
        subst em
        have mk2 := mk1.drew.next h9 t9
        have sz2 := mk2.size
        clear h9 t9 mk1 mk al bb cG ca cb g1 g2 da db d1 d2 za zb z1' z2'
        go_wp2_with (first | (at_builtin; refine app_list (e' := 3) elemInt rfl _ _ rfl w1.heap.size _ k (intVals TT) rfl (mk2.alloc (.cells #[.int .i64 (andG Y ua ub).2] 3)).wl.own w9.heap.size 1 1 _ (0, 0) rfl (heap_alloc_new w9 _) rfl (oneCell_i64 [_]) (by omega) (by unfold maxLen; omega) (by omega) (by simp; omega) (w9.heap.size + 1) (by simp) ?_))
        intro g5 c5 w5 ho5 hg5 hat5 _
        have H := Lib.hid (mk2.app ho5 hg5 hat5)
        clear mk2 ho5 hg5 hat5
        go_wp2_with fail
        go_roundw
        case rel => exact ⟨k + 1, n9, v9, by omega, by go_num, by rw [HA.out]; exact H.out, HN.out⟩
        case measure => simp [intOf]; omega
      · obtain ⟨u1, u2, _⟩ := hv a.toNat (by omega)
        obtain ⟨ua, hua⟩ : ∃ ua : Nat, TT.getD a.toNat 0 = (ua : Int) := Int.eq_ofNat_of_zero_le u1
        rw [hua] at u2
        have cG := spec_l16Not w1.heap.size w1.heap.size m v _ Y hg ua (by omega) _ mk1.cir mk1.size (by omega)
        obtain ⟨As, ms, cs, rfl, rfl⟩ := ownsRow_slice mk1.wl.own
        obtain ⟨qs, rfl, _⟩ := own_addr mk1.wl.own (by omega)
        have ca := (mk1.wl.at_ (j := a.toNat) (by omega)).1
        rw [hua] at ca
        have q1 : a < (k : Int) := by omega
        have q0 : (0 : Int) ≤ a := by omega
        have HA := Lib.hid (HA.out.trans (show _ = ((notG Y ua).1, TT ++ [(notG Y ua).2]) by rw [← hua]; rfl))
        have HL := Lib.hid (show (notG Y ua).1.length = m' * 3 by rw [← hua]; exact HL.out)
        clear hv hg
        go_wp2_with fail
        refine cG.mono ?_
        rintro e w9 ⟨v9, n9, rfl, h8, h7, h9, t9⟩
        have em : n9 = m' := by have := HL.out; have := h9.len; omega
        subst em
        have mk2 := mk1.next h9 t9
        have sz2 := mk2.size
        clear h9 t9 mk1 mk al bb cG ca
        go_wp2_with (first | (at_builtin; refine app_list (e' := 3) elemInt rfl _ _ rfl w1.heap.size _ k (intVals TT) rfl (mk2.alloc (.cells #[.int .i64 (notG Y ua).2] 3)).wl.own w9.heap.size 1 1 _ (0, 0) rfl (heap_alloc_new w9 _) rfl (oneCell_i64 [_]) (by omega) (by unfold maxLen; omega) (by omega) (by simp; omega) (w9.heap.size + 1) (by simp) ?_))
        intro g5 c5 w5 ho5 hg5 hat5 _
        have H := Lib.hid (mk2.app ho5 hg5 hat5)
        clear mk2 ho5 hg5 hat5
        go_wp2_with fail
        go_roundw
        case rel => exact ⟨k + 1, n9, v9, by omega, by go_num, by rw [HA.out]; exact H.out, HN.out⟩
        case measure => simp [intOf]; omega
    · obtain rfl : k = n0 := by omega
      have hm := hS.le
      obtain ⟨As, ms, cs, rfl, rfl⟩ := ownsRow_slice mk.wl.own
      have S0 := Lib.hid (show Mk w1.heap.size w1.heap.size w1 wr v (.slice none 0 0) (.slice As k cs) m 0 k (simA z0 k).1 (outV (simA z0 k).2 (z1.take 0)) (simA z0 k).2 from mk)
      have tl := hS.tl
      have HZ := Lib.hid (show ∀ t, t < n1 → 0 ≤ z1.getD t 0 ∧ z1.getD t 0 < (k : Int) from fun t ht => HG.out.2.2 _ (gD_mem (by rw [L1.out]; exact ht)))
      have HT := Lib.hid (fun t (ht : t < n1) => outV_take (simA z0 k).2 z1 (i := t) (by rw [L1.out]; exact ht))
      clear hS mk a1
      generalize (simA z0 k).1 = Y at *
      generalize (simA z0 k).2 = TT at *
      go_wp2_with fail
      go_loopw [8] (fun i wr => ∃ (t : Nat) (u : Value), t ≤ n1 ∧ i = .int .i64 t ∧ Mk w1.heap.size w1.heap.size w1 wr v u (.slice As k cs) m t k Y (outV TT (z1.take t)) TT) (fun i _ => n1 - (intOf i).toNat)
      case atStart => exact ⟨0, _, Nat.zero_le _, rfl, S0.out⟩
      case round =>
        obtain ⟨t, u, ht, rfl, mk⟩ := hrel
        clear S0
        have a1 := cell_on y1 mk.low
        by_cases hlt : t < n1
        · have t0 : (0 : Int) ≤ t := by omega
          have t1 : (t : Int) < n1 := by omega
          obtain ⟨q1, o1, rfl, _, ce⟩ := ((Ints.bound i11).below mk.low).at_ (j := t) (by rw [L1.out]; exact hlt)
          obtain ⟨v0, v1⟩ := HZ.out t hlt
          have HT1 := Lib.hid (HT.out t hlt)
          obtain ⟨qs, rfl, _⟩ := own_addr mk.wl.own (by omega)
          have cx := (mk.wl.at_ (j := (z1.getD t 0).toNat) (by omega)).1
          generalize z1.getD t 0 = y at *
          generalize TT.getD y.toNat 0 = x at *
          obtain ⟨Au, mu, cu, rfl, rfl⟩ := ownsRow_slice mk.outs.own
          have hgl := mk.cir.lt
          have gs := mk.size
          have M1 := mk.alloc (.cells #[.int .i64 x] 3)
          have hd := M1.drew
          have hbk : (wr.alloc (.cells #[.int .i64 x] 3)).drew.heap[wr.heap.size]? = some (.cells #[.int .i64 x] 3 (0, 0)) := heap_alloc_new wr _
          have b1 := (blk (i := 1) (u := .slice Au t cu) mk.cir.box rfl).1
          have b2 := (blk (i := 1) (u := .slice Au t cu) M1.cir.box rfl).1
          have Hmk := Lib.hid mk
          generalize outV TT (z1.take t) = OS at *
          clear mk
          go_upto_region 22 with (fail)
          go_region_law (first
            | (refine app_step (e' := 3) elemInt (by rfl) _ _ (by rfl) w1.heap.size (.slice Au t cu) t (intVals OS) (by rfl) hd.outs.own wr.heap.size 1 1 _ (0, 0) (by rfl) hbk (by rfl) (oneCell_i64 [_]) (by omega) (by unfold maxLen; omega) (by omega) (by simp; omega) (wr.heap.size + 1) (by simp) ?_; intro g8 e8 w8 ho8 hg8 hat8 hl8; (obtain ⟨f8, fz8⟩ := blk (i := 1) (u := .slice Au t cu) (heap_grown hd.cir.box hg8 hd.outs.ne) rfl)))
          all_goals
            have H := Lib.hid (Hmk.out.out ho8 ⟨hg8.os, hg8.tape, hg8.output, hg8.size, hg8.block⟩ hat8)
            clear ho8 hg8 hat8 hl8 f8 fz8 hbk b1 b2 hd M1 ce cx a1
            go_wp2_with fail
            go_roundw
            case rel => exact ⟨t + 1, _, by omega, by go_num, by rw [HT1.out]; exact H.out⟩
            case measure => simp [intOf]; omega
        · obtain rfl : t = n1 := by omega
          have eo : outV TT (z1.take t) = outV TT z1 := by rw [List.take_of_length_le (by rw [L1.out]; exact Nat.le_refl _)]
          rw [eo] at mk
          have kw := K1.out.next mk.low
          have hs2 := mk.size
          obtain ⟨A3, q3, c3, rfl, rfl⟩ := ownsRow_slice mk.cir.own
          obtain ⟨A4, q4, c4, rfl, rfl⟩ := ownsRow_slice mk.outs.own
          have g0 := (blk (i := 0) (u := .slice A3 m c3) mk.cir.box rfl).1
          have g1 := (blk (i := 1) (u := .slice A4 t c4) mk.cir.box rfl).1
          obtain ⟨r0, f0⟩ := blk (i := 0) kw.res rfl
          obtain ⟨r1, f1⟩ := blk (i := 1) kw.res rfl
          have R := Lib.hid (heap_set (i := 1) (heap_set (i := 0) kw.res (.slice A3 m c3)) (.slice A4 t c4))
          have O := Lib.hid (show OwnCircuit w.heap.size wr.heap.size ((wr.setCell ⟨w.heap.size + 1, 0, none⟩ (.slice A3 m c3)).setCell ⟨w.heap.size + 1, 1, none⟩ (.slice A4 t c4)) (.slice A3 m c3) (.slice A4 t c4) m t Y (outV TT z1) from ⟨(((OwnA.of_own mk.cir.own).setFar hlt1 _).setFar hlt1 _).wide (by omega) (Nat.le_refl _), (((OwnA.of_own mk.outs.own).setFar hlt1 _).setFar hlt1 _).wide (by omega) (Nat.le_refl _), mk.outs.ap.symm⟩)
          have L := Lib.hid ((kw.low.setCell (p := ⟨w.heap.size + 1, 0, none⟩) (by simp) (.slice A3 m c3)).setCell (p := ⟨w.heap.size + 1, 1, none⟩) (by simp) (.slice A4 t c4))
          clear mk kw
          go_wp2_with fail
          refine bodyPost_ret (results_cell_row (P := Try.prog) rfl _ _ (w.heap.size + 1) 31 _ (0, 0) _ rfl R.out Try.underlying31 rfl (by kernel_rfl)) rfl ?_
          rw [HE.out.1, HE.out.2]
          exact ⟨A3, A4, m, t, c3, c4, rfl, O.out.wide (Nat.le_refl _) (by simp), L.out⟩
end Go.Proofs.Ytegdlegndgdgiaa
