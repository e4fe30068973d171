/- Pruning, the program's: Prune, LiveGates. No condition. -/
import Derived.Test.YtegdlegndgdgiaaProg
import Derived.Test.YtegdlegndgdgiaaUsL
import Derived.Test.YtegdlegndgdgiaaSmX
import Derived.Test.YtegdlegndgdgiaaSmY
import Derived.Test.YtegdlegndgdgiaaS4
import Derived.Test.YtegdlegndgdgiaaCwC
import Derived.Test.YtegdlegndgdgiaaSameC
import Derived.Test.YtegdlegndgdgiaaCirC
namespace Go.Proofs.Ytegdlegndgdgiaa
open Go Go.RowKit
/-- A map below B stays while what lies from B on turns. -/
theorem Um.up {mb n B : Nat} {w w' : World} {f : Nat → Bool} {c : Nat → Int} (h : Um mb n w f c) (hb : Below B w w') (hm : mb < B) : Um mb n w' f c := by
  obtain ⟨D, ⟨es, clock, hh, F, hs, hD⟩, hu⟩ := h
  exact ⟨D, ⟨es, clock, (hb.block mb hm).trans hh, F, hs, hD⟩, hu⟩
theorem rew_new {L : List Bool} {n i : Nat} {k a b : Int} (r1 : one1 k → 0 ≤ a ∧ a.toNat < i ∧ fl L a.toNat = true) (r2 : two k → 0 ≤ b ∧ b.toNat < i ∧ fl L b.toNat = true) (hi : i < n) : rewA (toL L n i) k a = newA L k a ∧ rewB (toL L n i) k b = newB L k b := by
  unfold rewA rewB newA newB
  refine ⟨?_, ?_⟩
  · by_cases h : one1 k
    · obtain ⟨_, h2, h3⟩ := r1 h
      rw [if_pos h, if_pos h, toL_at (by omega) h2 h3]
    · rw [if_neg h, if_neg h]
  · by_cases h : two k
    · obtain ⟨_, h2, h3⟩ := r2 h
      rw [if_pos h, if_pos h, toL_at (by omega) h2 h3]
    · rw [if_neg h, if_neg h]
theorem outs_new {L : List Bool} {n : Nat} {os : List Int} (h : ∀ o ∈ os, 0 ≤ o ∧ o.toNat < n ∧ fl L o.toNat = true) : outV (toL L n n) os = prO L os := by
  unfold outV prO
  exact List.map_congr_left fun o ho => toL_at (h o ho).2.1 (h o ho).2.1 (h o ho).2.2
set_option maxRecDepth 100000 in
set_option maxHeartbeats 4000000 in
theorem impl_Prune : CtoC 51 pruZ pruO := by
  intro A0 n0 c0 z0 A1 n1 c1 z1 w h0 l0 m0 h1 l1 m1
  have k0 := Bx2.start w 31 #[.slice A0 n0 c0, .slice A1 n1 c1] 31 #[.slice none 0 0, .slice none 0 0]
  have i0 := h0.bound
  have i1 := h1.bound
  have L0 := Lib.hid l0
  have L1 := Lib.hid l1
  clear h0 h1 l0 l1
  have cK := fun r hr W j0 j1 => impl_CircuitOk A0 n0 c0 z0 A1 n1 c1 z1 r hr W j0 L0.out (by omega) j1 L1.out (by omega)
  go_enter Try.func51, Try.ntmps51
  go_wp2_with fail
  generalize hw0 : (w.alloc (.cells #[.slice A0 n0 c0, .slice A1 n1 c1] 31)).alloc (.cells #[.slice none 0 0, .slice none 0 0] 31) = w0 at *
  clear hw0
  have x0 := (blk (i := 0) k0.arg rfl).1
  have x1 := (blk (i := 1) k0.arg rfl).1
  have j0 := (i0.below k0.low).ints k0.low.size
  have j1 := (i1.below k0.low).ints k0.low.size
  by_cases hc : cirOk z0 n0 z1
  case neg =>
    have E := Lib.hid (pru_no hc)
    replace cK := cK false (decide_eq_false hc) w0 j0 j1
    clear hc
    go_wp2_with fail
    refine cK.mono ?_
    rintro e w1 ⟨rfl, hb1⟩
    have k1 := k0.next hb1
    have y0 := (blk (i := 0) k1.arg rfl).1
    have y1 := (blk (i := 1) k1.arg rfl).1
    have cC := impl_cloneCircuit A0 A1 c0 c1 n0 n1 z0 z1 w1 (Ints.below j0 hb1) L0.out m0 (Ints.below j1 hb1) L1.out m1
    clear cK k0 x0 x1 j0 j1 hb1 i0 i1
    go_wp2_with fail
    refine cC.mono ?_
    rintro e w2 ⟨B0, B1, p0, p1, d0, d1, rfl, o0, o1, ap, hb2⟩
    have k2 := k1.next hb2
    have hs := k1.lt
    have hs2 := hb2.size
    obtain ⟨r0, f0⟩ := blk (i := 0) k2.res rfl
    obtain ⟨r1, f1⟩ := blk (i := 1) k2.res rfl
    have R := Lib.hid (heap_set (i := 1) (heap_set (i := 0) k2.res (.slice B0 p0 d0)) (.slice B1 p1 d1))
    have O := Lib.hid (show OwnCircuit w.heap.size w2.heap.size ((w2.setCell ⟨w.heap.size + 1, 0, none⟩ (.slice B0 p0 d0)).setCell ⟨w.heap.size + 1, 1, none⟩ (.slice B1 p1 d1)) (.slice B0 p0 d0) (.slice B1 p1 d1) p0 p1 z0 z1 from ⟨(((OwnA.of_own o0.own).setFar hs _).setFar hs _).wide (by omega) (Nat.le_refl _), (((OwnA.of_own o1.own).setFar hs _).setFar hs _).wide (by omega) (Nat.le_refl _), ap⟩)
    have L := Lib.hid ((k2.low.setCell (p := ⟨w.heap.size + 1, 0, none⟩) (by simp) (.slice B0 p0 d0)).setCell (p := ⟨w.heap.size + 1, 1, none⟩) (by simp) (.slice B1 p1 d1))
    clear o0 o1 ap hb2 cC k1 y0 y1
    go_wp2_with fail
    refine bodyPost_ret (results_cell_row (P := Try.prog) rfl _ _ (w.heap.size + 1) 31 _ (0, 0) _ rfl R.out Try.underlying31 rfl (by kernel_rfl)) rfl ?_
    rw [E.out.1, E.out.2.1]
    exact ⟨B0, B1, p0, p1, d0, d1, rfl, O.out.wide (Nat.le_refl _) (by simp), L.out⟩
  have HE := Lib.hid (And.intro (show pruZ z0 n0 z1 = prA z0 (lv z0 n0 z1) n0 from if_pos hc) (show pruO z0 n0 z1 = prO (lv z0 n0 z1) z1 from if_pos hc))
  have HG := Lib.hid hc
  have HC := Lib.hid (lv_cls (os := z1) hc.2.1)
  have HV := Lib.hid (show ∀ o ∈ z1, 0 ≤ o ∧ o.toNat < n0 ∧ fl (lv z0 n0 z1) o.toNat = true from fun o ho => by
    have h := hc.2.2 o ho
    exact ⟨h.1, by omega, lv_out hc.2.1 (by omega) (by rw [Int.toNat_of_nonneg h.1]; exact ho)⟩)
  have n6 : n0 ≤ 6000 := hc.1
  replace cK := cK true (decide_eq_true hc) w0 j0 j1
  go_wp2_with fail
  refine cK.mono ?_
  rintro e w1 ⟨rfl, hb1⟩
  have k1 := k0.next hb1
  have i01 := (i0.below k1.low).ints k1.low.size
  have i11 := (i1.below k1.low).ints k1.low.size
  have y0 := (blk (i := 0) k1.arg rfl).1
  have y1 := (blk (i := 1) k1.arg rfl).1
  have cL := impl_usesOfLive A0 n0 c0 z0 A1 n1 c1 z1 w1 i01 L0.out i11 L1.out m1 hc
  clear hc cK k0 x0 x1 j0 j1 hb1
  go_wp2_with fail
  refine cL.mono ?_
  rintro e w2 ⟨mb, cf, rfl, hmb, um2, hb2⟩
  have k2 := k1.next hb2
  have hlt2 := k2.lt
  have hml := um2.lt
  have i02 := (i0.below k2.low).ints k2.low.size
  have i12 := (i1.below k2.low).ints k2.low.size
  have y0 := (blk (i := 0) k2.arg rfl).1
  have y1 := (blk (i := 1) k2.arg rfl).1
  have UM := Lib.hid um2
  clear cL k1 i0 i1 i01 i11 hb2 um2 hmb
  generalize lv z0 n0 z1 = L at *
  have bg := heap_alloc_new w2 (.cells #[.slice none 0 0, .slice none 0 0] 31)
  have lg := below_alloc w2 (.cells #[.slice none 0 0, .slice none 0 0] 31)
  have hwg : w2.heap.size < (w2.alloc (.cells #[.slice none 0 0, .slice none 0 0] 31)).heap.size := by simp
  have kg0 := k2.next lg
  go_upto_region 5 with (fail)
  generalize w2.alloc (.cells #[.slice none 0 0, .slice none 0 0] 31) = w3 at *
  have y0 := (blk (i := 0) kg0.arg rfl).1
  have y1 := (blk (i := 1) kg0.arg rfl).1
  go_wp2_with (first | (refine make_fullI Try.underlying23 infoInt rfl rfl _ _ rfl w3.heap.size _ _ _ _ n0 rfl rfl rfl rfl (by omega) (by unfold maxLen; omega) (Nat.le_refl _) ?_))
  intro w4 hown4 hg4
  have hb4 : Below w3.heap.size w3 w4 := (Below.refl _ _).grown hg4 (Nat.le_refl _) (fun k h => by cases h)
  have k4 := kg0.next hb4
  have C3 : Cir w2.heap.size w2.heap.size w3 (.slice none 0 0) ⟨[.slice none 0 0], 31⟩ 0 [] := ⟨bg, World.ownsRow_nil _ _ _ _, by simp [Value.ownBlock]⟩
  have M0 : Mk w2.heap.size w2.heap.size w2 w4 (.slice none 0 0) (.slice none 0 0) (.slice (some ⟨w3.heap.size, 0, none⟩) n0 n0) 0 0 n0 [] [] (toL L n0 0) := by
    rw [toL_zero]
    refine ⟨C3.below hb4, ⟨World.ownsRow_nil _ _ _ _, by simp [Value.ownBlock], apart.nil _ _ _⟩, (Wl.fresh (us := List.replicate n0 0) C3 ?_ (Nat.le_refl _)).mono lg.size, apart.nil _ _ _, lg.trans (hb4.mono lg.size), Nat.le_trans lg.size hb4.size, Nat.le_refl _⟩
    rw [show intVals (List.replicate n0 0) = List.replicate n0 (.int .i64 0) by simp [intVals]]
    exact hown4
  have S0 := Lib.hid M0
  have K2 := Lib.hid k2
  have z0' := (blk (i := 0) k4.arg rfl).1
  clear M0 bg hown4 hg4 hb4 k2 C3 kg0 lg y0 y1
  go_wp2_with fail
  go_loopw [25] (fun i wr => ∃ (k : Nat) (v : Value), k ≤ n0 ∧ i = .int .i64 k ∧ Mk w2.heap.size w2.heap.size w2 wr v (.slice none 0 0) (.slice (some ⟨w3.heap.size, 0, none⟩) n0 n0) (rnk L k) 0 n0 (prA z0 L k) [] (toL L n0 k)) (fun i _ => n0 - (intOf i).toNat)
  case atStart => exact ⟨0, _, Nat.zero_le _, rfl, S0.out⟩
  case round =>
    obtain ⟨k, v, hk, rfl, mk⟩ := hrel
    clear S0
    by_cases hlt : k < n0
    · have j0 : (0 : Int) ≤ k := by omega
      have j1 : (k : Int) < n0 := by omega
      obtain ⟨q, o, rfl, hq, e0, e1, e2⟩ := gate_cells ((Ints.bound i02).below mk.low) L0.out hlt
      have ok := HG.out.2.1 k hlt
      obtain ⟨r1, r2⟩ := arg_lt HG.out.2.1 hlt
      have HP := Lib.hid (show prA z0 L (k + 1) = if fl L k = true then putG (prA z0 L k) (gk z0 k) (newA L (gk z0 k) (ga z0 k)) (newB L (gk z0 k) (gb z0 k)) else prA z0 L k from rfl)
      have HR := Lib.hid (show rnk L (k + 1) = rnk L k + if fl L k = true then 1 else 0 from rfl)
      have hrk := rnk_le L k
      have HX := Lib.hid (fun h : fl L k = true => toL_set (n := n0) hlt h)
      have HY := Lib.hid (fun h : fl L k = false => toL_skip (n := n0) h)
      have HN := Lib.hid (fun hf : fl L k = true => rew_new (L := L) (n := n0) (i := k) (k := gk z0 k) (a := ga z0 k) (b := gb z0 k) (fun h => ⟨(r1 h).1, (r1 h).2, HC.out k (ga z0 k).toNat hlt hf (.inl ⟨h, by have := r1 h; omega⟩)⟩) (fun h => ⟨(r2 h).1, (r2 h).2, HC.out k (gb z0 k).toNat hlt hf (.inr ⟨h, by have := r2 h; omega⟩)⟩) hlt)
      have tl := toL_length L n0 k
      have al := below_alloc wr (.cells #[.int .i64 (gk z0 k), .int .i64 (ga z0 k), .int .i64 (gb z0 k)] 45)
      have mk1 := mk.alloc (.cells #[.int .i64 (gk z0 k), .int .i64 (ga z0 k), .int .i64 (gb z0 k)] 45)
      have bb := heap_alloc_new wr (.cells #[.int .i64 (gk z0 k), .int .i64 (ga z0 k), .int .i64 (gb z0 k)] 45)
      have lk := ((UM.out.up mk.low hml).alloc (.cells #[.int .i64 (gk z0 k), .int .i64 (ga z0 k), .int .i64 (gb z0 k)] 45)).look hlt (by omega)
      have cR := impl_rewired (gk z0 k) (ga z0 k) (gb z0 k) (some ⟨w3.heap.size, 0, none⟩) n0 n0 (toL L n0 k) k ok _ (Ints.of_own mk1.wl.own) tl (by omega)
      clear r1 r2 ok
      generalize rewA (toL L n0 k) (gk z0 k) (ga z0 k) = ra at *
      generalize rewB (toL L n0 k) (gk z0 k) (gb z0 k) = rb at *
      generalize gk z0 k = kd at *
      generalize ga z0 k = a at *
      generalize gb z0 k = b at *
      generalize prA z0 L k = Y at *
      generalize rnk L k = m at *
      generalize toL L n0 k = TT at *
      cases hf : fl L k with
      | false =>
        rw [hf] at lk
        have H := Lib.hid (show Mk w2.heap.size w2.heap.size w2 (wr.alloc (.cells #[.int .i64 kd, .int .i64 a, .int .i64 b] 45)) v (.slice none 0 0) (.slice (some ⟨w3.heap.size, 0, none⟩) n0 n0) (rnk L (k + 1)) 0 n0 (prA z0 L (k + 1)) [] (toL L n0 (k + 1)) by
          rw [HP.out, HR.out, HY.out hf, if_neg (by rw [hf]; simp), if_neg (by rw [hf]; simp)]
          exact mk1)
        clear mk mk1 hf HP HR HX HY HN cR bb al
        go_wp2_with fail
        go_roundw
        case rel => exact ⟨k + 1, v, by omega, by go_num, H.out⟩
        case measure => simp [intOf]; omega
      | true =>
        rw [hf] at lk
        have HR1 := Lib.hid (show rnk L (k + 1) = m + 1 by rw [HR.out, if_pos hf])
        have HX1 := Lib.hid (HX.out hf)
        have HP1 := Lib.hid (show prA z0 L (k + 1) = putG Y kd ra rb by rw [HP.out, if_pos hf, (HN.out hf).1, (HN.out hf).2])
        clear HR HX HY HP HN hf mk al
        go_wp2_with fail
        refine cR.mono ?_
        rintro e w5 ⟨rfl, hb5⟩
        have mk2 := mk1.below hb5
        have cA := impl_appendGate w2.heap.size w2.heap.size m v ⟨[.slice none 0 0], 31⟩ Y kd ra rb w5 mk2.cir mk2.size (by omega)
        rw [nG_is mk2.cir.len] at cA
        clear mk1 cR hb5 bb lk e0 e1 e2
        go_wp2_with fail
        refine cA.mono ?_
        rintro e w6 ⟨v6, rfl, h6, t6⟩
        have mk3 := mk2.next h6 t6
        obtain ⟨u0, u1⟩ := mk3.wl.at_ hlt
        have H := Lib.hid (show Mk w2.heap.size w2.heap.size w2 (w6.setCell ⟨w3.heap.size, k, none⟩ (.int .i64 (m : Int))) v6 (.slice none 0 0) (.slice (some ⟨w3.heap.size, 0, none⟩) n0 n0) (rnk L (k + 1)) 0 n0 (prA z0 L (k + 1)) [] (toL L n0 (k + 1)) by
          rw [HR1.out, HP1.out, ← HX1.out]
          exact mk3.wset (m : Int))
        clear mk3 mk2 h6 t6 cA
        go_wp2_with fail
        go_roundw
        case rel => exact ⟨k + 1, v6, by omega, by go_num, H.out⟩
        case measure => simp [intOf]; omega
    · obtain rfl : k = n0 := by omega
      have EO := Lib.hid (outs_new HV.out)
      have tl := toL_length L k k
      have K3 := K2.out.next mk.low
      have y0 := (blk (i := 0) K3.arg rfl).1
      have y1 := (blk (i := 1) K3.arg rfl).1
      have cO := impl_atOutputs A0 k c0 A1 n1 c1 z1 (some ⟨w3.heap.size, 0, none⟩) k k (toL L k k) wr (((Ints.bound i12).below mk.low).ints mk.size) L1.out (by omega) (Ints.of_own mk.wl.own) tl HG.out.2.2
      rw [EO.out] at cO
      generalize toL L k k = TT at *
      generalize rnk L k = m at *
      generalize prA z0 L k = Y at *
      generalize prO L z1 = OO at *
      go_wp2_with fail
      refine cO.mono ?_
      rintro e w5 ⟨A5, n5, c5, rfl, o5, hb5⟩
      have mk5 := mk.below hb5
      have K5 := K3.next hb5
      have hgl := mk.cir.lt
      have hs5 := hb5.size
      have ho5 := o5.setFar (g := w2.heap.size) (i := 1) hgl (.slice A5 n5 c5)
      have c6 := mk5.cir.rest 0 (.slice A5 n5 c5)
      have ap : apart v (.slice A5 n5 c5) := fun q e e' => by
        have h1 := (mk.cir.own.lt q e).2
        have h2 := (o5.lt e').1
        omega
      have l6 : Below w2.heap.size w5 (w5.setCell ⟨w2.heap.size, 0 + 1, none⟩ (.slice A5 n5 c5)) := ((Below.refl _ w5).setCell (p := ⟨w2.heap.size, 0 + 1, none⟩) (Nat.le_refl _) (.slice A5 n5 c5))
      have K6 : Bx2 w (w5.setCell ⟨w2.heap.size, 0 + 1, none⟩ (.slice A5 n5 c5)) _ _ _ _ := ⟨(l6.block _ (by omega)).trans K5.arg, (l6.block _ hlt2).trans K5.res, K5.low.trans (l6.mono (by omega))⟩
      obtain ⟨u1, f1⟩ := blk (i := 1) mk5.cir.box rfl
      obtain ⟨A3, q3, c3, rfl, rfl⟩ := ownsRow_slice mk5.cir.own
      obtain ⟨t0, -⟩ := blk (i := 0) (u := .slice A3 m c3) c6.box rfl
      obtain ⟨t1, -⟩ := blk (i := 1) (u := .slice A5 n5 c5) c6.box rfl
      obtain ⟨r0, d0⟩ := blk (i := 0) K6.res rfl
      obtain ⟨r1, d1⟩ := blk (i := 1) K6.res rfl
      have R := Lib.hid (heap_set (i := 1) (heap_set (i := 0) K6.res (.slice A3 m c3)) (.slice A5 n5 c5))
      have O := Lib.hid (show OwnCircuit w.heap.size w5.heap.size (((w5.setCell ⟨w2.heap.size, 0 + 1, none⟩ (.slice A5 n5 c5)).setCell ⟨w.heap.size + 1, 0, none⟩ (.slice A3 m c3)).setCell ⟨w.heap.size + 1, 1, none⟩ (.slice A5 n5 c5)) (.slice A3 m c3) (.slice A5 n5 c5) m n5 Y OO from
        ⟨(((OwnA.of_own c6.own).setFar hlt2 _).setFar hlt2 _).wide (by omega) (by simp), ((ho5.setFar (by omega) _).setFar (by omega) _).wide (by omega) (Nat.le_refl _), ap⟩)
      have L := Lib.hid ((K6.low.setCell (p := ⟨w.heap.size + 1, 0, none⟩) (by simp) (.slice A3 m c3)).setCell (p := ⟨w.heap.size + 1, 1, none⟩) (by simp) (.slice A5 n5 c5))
      clear mk mk5 K2 K3 K5 K6 o5 ho5 c6 ap l6 hb5 cO y0 y1
      go_wp2_with fail
      refine bodyPost_ret (results_cell_row (P := Try.prog) rfl _ _ (w.heap.size + 1) 31 _ (0, 0) _ rfl R.out Try.underlying31 rfl (by kernel_rfl)) rfl ?_
      rw [HE.out.1, HE.out.2]
      exact ⟨A3, A5, m, n5, c3, c5, rfl, O.out.wide (Nat.le_refl _) (by simp), L.out⟩
end Go.Proofs.Ytegdlegndgdgiaa
