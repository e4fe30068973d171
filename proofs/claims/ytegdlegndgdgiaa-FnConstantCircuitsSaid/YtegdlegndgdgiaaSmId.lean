/- Simplification, the program's: Simplify. No condition. -/
import Derived.Test.YtegdlegndgdgiaaProg
import Derived.Test.YtegdlegndgdgiaaS4
import Derived.Test.YtegdlegndgdgiaaCwC
import Derived.Test.YtegdlegndgdgiaaSmV
import Derived.Test.YtegdlegndgdgiaaSameC
import Derived.Test.YtegdlegndgdgiaaCirC
namespace Go.Proofs.Ytegdlegndgdgiaa
open Go Go.RowKit
/-- The way over the gates: the simplification, the new wires of the old gates, and what turned. -/
structure Ss (B g mb : Nat) (w0 wr : World) (v s : Value) (m i : Nat) (y ts : List Int) : Prop where
  sp : Sp B g mb m wr v y
  wl : Wl g v B wr s i ts
  low : Below B w0 wr
  size : B ≤ wr.heap.size
section
variable {B g mb m m' i b c : Nat} {w0 wr w1 w2 : World} {v v' s : Value} {y y' ts : List Int} {x : Int}
theorem Wl.tm {B' k n' : Nat} {u : Value} {us z : List Int} (hp : Sp B' g mb n' wr v z) (h : Wl g v B wr u k us) (t : Tm g mb v wr v' w1) : Wl g v' B w1 u k us := by
  have hn := hp.own_ne h.own
  refine ⟨⟨h.own.1, ?_⟩, h.ne, fun b e e' => ?_⟩
  · rcases h.own.2 with e | ⟨b, cap, cur, e, hb, hh, r⟩
    · exact .inl e
    · exact .inr ⟨b, cap, cur, e, hb, (t.block b (heap_lt hh) (fun e1 => h.ne (by rw [e, ← e1]; rfl)) (fun e1 => hn (by rw [e, ← e1]; rfl)) (fun e1 => h.ap b (by rw [e]; rfl) e1)).trans hh, r⟩
  · rcases t.at_ b e' with e1 | e1
    · exact h.ap b e e1
    · have := (h.own.lt b e).2; omega
theorem Ss.next (h : Ss B g mb w0 wr v s m i y ts) (hs : Sp B g mb m' w1 v' y') (t : Tm g mb v wr v' w1) : Ss B g mb w0 w1 v' s m' i y' ts :=
  ⟨hs, h.wl.tm h.sp t, h.low.trans (t.low h.sp.ge h.sp.mge (fun q e => (h.sp.cir.own.lt q e).1) h.size), Nat.le_trans h.size t.size⟩
theorem Ss.below (h : Ss B g mb w0 wr v s m i y ts) (hb : Below wr.heap.size wr w1) : Ss B g mb w0 w1 v s m i y ts := h.next (h.sp.below hb) ((Tm.refl _ _ _ _).below hb)
theorem Ss.alloc (h : Ss B g mb w0 wr v s m i y ts) (o : Obj) : Ss B g mb w0 (wr.alloc o) v s m i y ts := h.below (below_alloc _ _)
/-- A new wire is noted. -/
theorem Ss.app {o : Obj} (h : Ss B g mb w0 wr v s m i y ts) (ho : w2.ownsRow B 3 1 (.slice (some ⟨b, 0, none⟩) (i + 1) c) (i + 1) (intVals ts ++ (#[Value.int .i64 x] : Array Value).toList)) (hg : (wr.alloc o).grownBy w2 s.ownBlock) (hat : s.ownBlock = some b ∨ b = wr.heap.size + 1) :
    Ss B g mb w0 w2 v (.slice (some ⟨b, 0, none⟩) (i + 1) c) m (i + 1) y (ts ++ [x]) := by
  have h1 := h.alloc o
  have hn := h1.sp.own_ne h1.wl.own
  have sz : (wr.alloc o).heap.size = wr.heap.size + 1 := by simp
  exact ⟨⟨h1.sp.cir.grown hg h1.wl.ne h1.wl.ap, h1.sp.map.kept hg (fun e => hn e.symm), h1.sp.ge, h1.sp.mge, h1.sp.ok, h1.sp.one⟩, h1.wl.app (H := wr.heap.size + 1) ho (ys := ts ++ [x]) (by simp [intVals]) hat h1.sp.cir (by simp), h1.low.grown hg h1.size (fun q e => (h1.wl.own.lt q e).1), Nat.le_trans h1.size hg.size⟩
end
theorem Bx2.up_ {w wr w1 : World} {T T' : TypeId} {xs rs : Array Value} {B : Nat} (h : Bx2 w wr T xs T' rs) (hb : Below B wr w1) (hB : w.heap.size + 1 < B) : Bx2 w w1 T xs T' rs :=
  ⟨(hb.block _ (by omega)).trans h.arg, (hb.block _ hB).trans h.res, h.low.trans (hb.mono (by omega))⟩
/-- A gate's operands replaced by the new wires: it is a gate of the new circuit. -/
theorem rew_ok {bs z : List Int} {n i m : Nat} (h : SimAt bs z i m) (hg : gatesOk z n) (hi : i < n) : gateOk (gk z i) (rewA (simA z i).2 (gk z i) (ga z i)) (rewB (simA z i).2 (gk z i) (gb z i)) m := by
  have ok := hg i hi
  have hv := h.val
  unfold rewA rewB
  generalize gk z i = k at *
  generalize ga z i = a at *
  generalize gb z i = b at *
  rcases ok with ⟨rfl, ha, rfl⟩ | ⟨rfl, ha, rfl⟩ | ⟨hk, ha, hb⟩ | ⟨rfl, ha, rfl⟩
  · rw [if_neg (by unfold one1; omega), if_neg (by unfold two; omega)]
    exact .inl ⟨rfl, ha, rfl⟩
  · rw [if_neg (by unfold one1; omega), if_neg (by unfold two; omega)]
    exact .inr (.inl ⟨rfl, ha, rfl⟩)
  · rw [if_pos (by unfold one1; omega), if_pos (show two k from hk)]
    obtain ⟨u1, u2, _⟩ := hv a.toNat (by omega)
    obtain ⟨u3, u4, _⟩ := hv b.toNat (by omega)
    exact .inr (.inr (.inl ⟨hk, ⟨u1, u2⟩, u3, u4⟩))
  · rw [if_pos (by unfold one1; omega), if_neg (by unfold two; omega)]
    obtain ⟨u1, u2, _⟩ := hv a.toNat (by omega)
    exact .inr (.inr (.inr ⟨rfl, ⟨u1, u2⟩, rfl⟩))
set_option maxRecDepth 100000 in
set_option maxHeartbeats 4000000 in
theorem impl_Simplify : CtoC 46 simZ simO := by
  intro A0 n0 c0 z0 A1 n1 c1 z1 w h0 l0 m0 h1 l1 m1
  have k0 := Bx2.start w 31 #[.slice A0 n0 c0, .slice A1 n1 c1] 31 #[.slice none 0 0, .slice none 0 0]
  have i0 := h0.bound
  have i1 := h1.bound
  have L0 := Lib.hid l0
  have L1 := Lib.hid l1
  clear h0 h1 l0 l1
  have cK := fun r hr W j0 j1 => impl_CircuitOk A0 n0 c0 z0 A1 n1 c1 z1 r hr W j0 L0.out (by omega) j1 L1.out (by omega)
  have hmm := @run_makeMap Try.prog
  go_enter Try.func46, Try.ntmps46
  go_wp2_with fail
  generalize hw0 : (w.alloc (.cells #[.slice A0 n0 c0, .slice A1 n1 c1] 31)).alloc (.cells #[.slice none 0 0, .slice none 0 0] 31) = w0 at *
  clear hw0
  have x0 := (blk (i := 0) k0.arg rfl).1
  have x1 := (blk (i := 1) k0.arg rfl).1
  have j0 := (i0.below k0.low).ints k0.low.size
  have j1 := (i1.below k0.low).ints k0.low.size
  by_cases hc : cirOk z0 n0 z1
  case neg =>
    have E := Lib.hid (sim_no hc)
    replace cK := cK false (decide_eq_false hc) w0 j0 j1
    clear hc hmm
    go_wp2_with fail
    refine cK.mono ?_
    rintro e w1 ⟨rfl, hb1⟩
    have k1 := k0.next hb1
    have y0 := (blk (i := 0) k1.arg rfl).1
    have y1 := (blk (i := 1) k1.arg rfl).1
    have cC := impl_cloneCircuit A0 A1 c0 c1 n0 n1 z0 z1 w1 (Ints.below j0 hb1) L0.out m0 (Ints.below j1 hb1) L1.out m1
    clear cK k0 x0 x1 j0 j1 hb1 i0 i1
    go_wp2_with fail
    refine cC.mono ?_
    rintro e w2 ⟨B0, B1, p0, p1, d0, d1, rfl, o0, o1, ap, hb2⟩
    have k2 := k1.next hb2
    have hs := k1.lt
    have hs2 := hb2.size
    obtain ⟨r0, f0⟩ := blk (i := 0) k2.res rfl
    obtain ⟨r1, f1⟩ := blk (i := 1) k2.res rfl
    have R := Lib.hid (heap_set (i := 1) (heap_set (i := 0) k2.res (.slice B0 p0 d0)) (.slice B1 p1 d1))
    have O := Lib.hid (show OwnCircuit w.heap.size w2.heap.size ((w2.setCell ⟨w.heap.size + 1, 0, none⟩ (.slice B0 p0 d0)).setCell ⟨w.heap.size + 1, 1, none⟩ (.slice B1 p1 d1)) (.slice B0 p0 d0) (.slice B1 p1 d1) p0 p1 z0 z1 from ⟨(((OwnA.of_own o0.own).setFar hs _).setFar hs _).wide (by omega) (Nat.le_refl _), (((OwnA.of_own o1.own).setFar hs _).setFar hs _).wide (by omega) (Nat.le_refl _), ap⟩)
    have L := Lib.hid ((k2.low.setCell (p := ⟨w.heap.size + 1, 0, none⟩) (by simp) (.slice B0 p0 d0)).setCell (p := ⟨w.heap.size + 1, 1, none⟩) (by simp) (.slice B1 p1 d1))
    clear o0 o1 ap hb2 cC k1 y0 y1
    go_wp2_with fail
    refine bodyPost_ret (results_cell_row (P := Try.prog) rfl _ _ (w.heap.size + 1) 31 _ (0, 0) _ rfl R.out Try.underlying31 rfl (by kernel_rfl)) rfl ?_
    rw [E.out.1, E.out.2]
    exact ⟨B0, B1, p0, p1, d0, d1, rfl, O.out.wide (Nat.le_refl _) (by simp), L.out⟩
  have hb80 : allBit (List.replicate 80 0) := fun x hx => by rw [(List.mem_replicate.1 hx).2]; decide
  have HE := Lib.hid (And.intro (show simZ z0 n0 z1 = (simA z0 n0).1 from if_pos hc) (show simO z0 n0 z1 = outV (simA z0 n0).2 z1 from if_pos hc))
  have HG := Lib.hid hc
  have n6 : n0 ≤ 6000 := hc.1
  replace cK := cK true (decide_eq_true hc) w0 j0 j1
  clear hc
  go_wp2_with fail
  refine cK.mono ?_
  rintro e w1 ⟨rfl, hb1⟩
  have k1 := k0.next hb1
  have i01 := (i0.below k1.low).ints k1.low.size
  have i11 := (i1.below k1.low).ints k1.low.size
  have hlt1 := k1.lt
  clear cK k0 x0 x1 j0 j1 hb1
  have y0 := (blk (i := 0) k1.arg rfl).1
  have y1 := (blk (i := 1) k1.arg rfl).1
  go_upto_region 4 with (fail)
  have bm := (World.ownsMap_made w1 Try.prog 45 (plainElem (H := Unit) Try.prog 3)).alloc (.cells #[.slice none 0 0, .slice none 0 0, .map (some w1.heap.size)] 96)
  have bg := heap_alloc_new (w1.alloc (.map #[] 0)) (.cells #[.slice none 0 0, .slice none 0 0, .map (some w1.heap.size)] 96)
  have lw := (below_alloc w1 (.map #[] 0)).alloc (by simp) (.cells #[.slice none 0 0, .slice none 0 0, .map (some w1.heap.size)] 96)
  rw [show (w1.alloc (.map #[] 0)).heap.size = w1.heap.size + 1 by simp] at bg
  generalize hw2 : (w1.alloc (.map #[] 0)).alloc (.cells #[.slice none 0 0, .slice none 0 0, .map (some w1.heap.size)] 96) = w2 at *
  clear hw2 hmm
  have S2 : Sp w1.heap.size (w1.heap.size + 1) w1.heap.size 0 w2 (.slice none 0 0) [] := ⟨⟨bg, World.ownsRow_nil _ _ _ _, by simp [Value.ownBlock]⟩, bm, by omega, Nat.le_refl _, fun i h => by omega, fun i j h h2 => by omega⟩
  have S2' := Lib.hid S2
  have z0' := cell_on y0 lw
  have z1' := cell_on y1 lw
  clear bm bg S2 y0 y1
  go_wp2_with (first | (refine make_list elemInt rfl _ _ rfl w2.heap.size _ _ n0 n0 rfl rfl rfl (by omega) (by unfold maxLen; omega) (Nat.le_refl _) ?_))
  intro w3 hown3 hg3
  have hb3 : Below w2.heap.size w2 w3 := (Below.refl _ _).grown hg3 (Nat.le_refl _) (fun k h => by cases h)
  have S3 : Ss w1.heap.size (w1.heap.size + 1) w1.heap.size w1 w3 (.slice none 0 0) (.slice (some ⟨w2.heap.size, 0, none⟩) 0 n0) 0 0 [] [] :=
    ⟨S2'.out.below hb3, (Wl.fresh (us := []) S2'.out.cir hown3 (Nat.le_refl _)).mono lw.size, lw.trans (hb3.mono lw.size), Nat.le_trans lw.size hb3.size⟩
  have S0 := Lib.hid S3
  have S1 := Lib.hid (SimAt.start (List.replicate 80 0) z0)
  have y0 := cell_on z0' hb3
  have y1 := cell_on z1' hb3
  have K1 := Lib.hid k1
  clear S3 S2' hown3 hg3 hb3 z0' z1' lw
  go_wp2_with fail
  go_loopw [4, 22] (fun s i wr => ∃ (k m : Nat) (v : Value), k ≤ n0 ∧ i = .int .i64 k ∧ Ss w1.heap.size (w1.heap.size + 1) w1.heap.size w1 wr v s m k (simA z0 k).1 (simA z0 k).2 ∧ SimAt (List.replicate 80 0) z0 k m) (fun _ i _ => n0 - (intOf i).toNat)
  case atStart => exact ⟨0, 0, _, Nat.zero_le _, rfl, S0.out, S1.out⟩
  case round =>
    obtain ⟨k, m, v, hk, rfl, mk, hS⟩ := hrel
    clear S0 S1 y0 y1
    by_cases hlt : k < n0
    · have j0 : (0 : Int) ≤ k := by omega
      have j1 : (k : Int) < n0 := by omega
      obtain ⟨q, o, rfl, hq, e0, e1, e2⟩ := gate_cells ((Ints.bound i01).below mk.low) L0.out hlt
      have ok := rew_ok hS HG.out.2.1 hlt
      have og := HG.out.2.1 k hlt
      obtain ⟨m', hm1, hm2, hS'⟩ := hS.step HG.out.2.1 hb80 hlt
      have hm := hS.le
      have HN := Lib.hid hS'
      have HL := Lib.hid hS'.len
      have HA := Lib.hid (show simA z0 (k + 1) = ((addG (simA z0 k).1 (gk z0 k) (rewA (simA z0 k).2 (gk z0 k) (ga z0 k)) (rewB (simA z0 k).2 (gk z0 k) (gb z0 k))).1, (simA z0 k).2 ++ [(addG (simA z0 k).1 (gk z0 k) (rewA (simA z0 k).2 (gk z0 k) (ga z0 k)) (rewB (simA z0 k).2 (gk z0 k) (gb z0 k))).2]) by rw [← simG_add]; rfl)
      rw [HA.out] at HL
      have tl := hS.tl
      obtain ⟨As, cs, rfl⟩ := mk.wl.form
      have al := below_alloc wr (.cells #[.int .i64 (gk z0 k), .int .i64 (ga z0 k), .int .i64 (gb z0 k)] 45)
      have mk1 := mk.alloc (.cells #[.int .i64 (gk z0 k), .int .i64 (ga z0 k), .int .i64 (gb z0 k)] 45)
      have cR := impl_rewired (gk z0 k) (ga z0 k) (gb z0 k) As k cs (simA z0 k).2 k og _ (Ints.of_own mk1.wl.own) tl (Nat.le_refl _)
      have bb := heap_alloc_new wr (.cells #[.int .i64 (gk z0 k), .int .i64 (ga z0 k), .int .i64 (gb z0 k)] 45)
      generalize rewA (simA z0 k).2 (gk z0 k) (ga z0 k) = ra at *
      generalize rewB (simA z0 k).2 (gk z0 k) (gb z0 k) = rb at *
      generalize gk z0 k = kd at *
      generalize ga z0 k = a at *
      generalize gb z0 k = b at *
      generalize (simA z0 k).1 = Y at *
      generalize (simA z0 k).2 = TT at *
      clear hS hS' mk al og
      go_wp2_with fail
      refine cR.mono ?_
      rintro e w4 ⟨rfl, hb4⟩
      have mk2 := mk1.below hb4
      have cA := impl_sadd w1.heap.size (w1.heap.size + 1) w1.heap.size m v Y kd ra rb ok w4 mk2.sp mk2.size (by omega)
      clear mk1 cR hb4 bb e0 e1 e2
      go_wp2_with fail
      refine cA.mono ?_
      rintro e w9 ⟨v9, n9, rfl, p1, p2, p3, p4⟩
      have em : n9 = m' := by have := HL.out; have := p3.len; omega
      subst em
      have mk3 := mk2.next p3 p4
      have sz3 := mk3.size
      clear p3 p4 mk2 cA
      go_wp2_with (first | (at_builtin; refine app_list (e' := 3) elemInt rfl _ _ rfl w1.heap.size _ k (intVals TT) rfl (mk3.alloc (.cells #[.int .i64 (addG Y kd ra rb).2] 3)).wl.own w9.heap.size 1 1 _ (0, 0) rfl (heap_alloc_new w9 _) rfl (oneCell_i64 [_]) (by omega) (by unfold maxLen; omega) (by omega) (by simp; omega) (w9.heap.size + 1) (by simp) ?_))
      intro g5 c5 w5 ho5 hg5 hat5 _
      have H := Lib.hid (mk3.app ho5 hg5 hat5)
      clear mk3 ho5 hg5 hat5
      go_wp2_with fail
      go_roundw
      case rel => exact ⟨k + 1, n9, v9, by omega, by go_num, by rw [HA.out]; exact H.out, HN.out⟩
      case measure => simp [intOf]; omega
    · obtain rfl : k = n0 := by omega
      have hm := hS.le
      have tl := hS.tl
      obtain ⟨As, cs, rfl⟩ := mk.wl.form
      have K2 := K1.out.next mk.low
      have y0 := (blk (i := 0) K2.arg rfl).1
      have y1 := (blk (i := 1) K2.arg rfl).1
      have cO := impl_atOutputs A0 k c0 A1 n1 c1 z1 As k cs (simA z0 k).2 wr (((Ints.bound i11).below mk.low).ints mk.size) L1.out (by omega) (Ints.of_own mk.wl.own) tl HG.out.2.2
      clear hS
      generalize (simA z0 k).1 = Y at *
      generalize (simA z0 k).2 = TT at *
      go_wp2_with fail
      refine cO.mono ?_
      rintro e w5 ⟨A5, n5, c5, rfl, o5, hb5⟩
      have mk5 := mk.below hb5
      have K5 := K2.next hb5
      have hgl := mk.sp.cir.lt
      have hs5 := hb5.size
      have ho5 := o5.setFar (g := w1.heap.size + 1) (i := 1) hgl (.slice A5 n5 c5)
      have c6 := mk5.sp.cir.rest 0 (.slice A5 n5 c5)
      have ap : apart v (.slice A5 n5 c5) := fun q e e' => by
        have h1 := (mk.sp.cir.own.lt q e).2
        have h2 := (o5.lt e').1
        omega
      have l6 : Below w1.heap.size w5 (w5.setCell ⟨w1.heap.size + 1, 0 + 1, none⟩ (.slice A5 n5 c5)) := ((Below.refl _ w5).setCell (p := ⟨w1.heap.size + 1, 0 + 1, none⟩) (Nat.le_succ _) (.slice A5 n5 c5))
      have K6 := K5.up_ l6 hlt1
      obtain ⟨u1, f1⟩ := blk (i := 1) mk5.sp.cir.box rfl
      obtain ⟨A3, q3, c3, rfl, rfl⟩ := ownsRow_slice mk5.sp.cir.own
      obtain ⟨t0, -⟩ := blk (i := 0) (u := .slice A3 m c3) c6.box rfl
      obtain ⟨t1, -⟩ := blk (i := 1) (u := .slice A5 n5 c5) c6.box rfl
      obtain ⟨r0, d0⟩ := blk (i := 0) K6.res rfl
      obtain ⟨r1, d1⟩ := blk (i := 1) K6.res rfl
      have R := Lib.hid (heap_set (i := 1) (heap_set (i := 0) K6.res (.slice A3 m c3)) (.slice A5 n5 c5))
      have O := Lib.hid (show OwnCircuit w.heap.size w5.heap.size (((w5.setCell ⟨w1.heap.size + 1, 0 + 1, none⟩ (.slice A5 n5 c5)).setCell ⟨w.heap.size + 1, 0, none⟩ (.slice A3 m c3)).setCell ⟨w.heap.size + 1, 1, none⟩ (.slice A5 n5 c5)) (.slice A3 m c3) (.slice A5 n5 c5) m n5 Y (outV TT z1) from
        ⟨(((OwnA.of_own c6.own).setFar hlt1 _).setFar hlt1 _).wide (by omega) (by simp), ((ho5.setFar (by omega) _).setFar (by omega) _).wide (by omega) (Nat.le_refl _), ap⟩)
      have L := Lib.hid ((K6.low.setCell (p := ⟨w.heap.size + 1, 0, none⟩) (by simp) (.slice A3 m c3)).setCell (p := ⟨w.heap.size + 1, 1, none⟩) (by simp) (.slice A5 n5 c5))
      clear mk mk5 K2 K5 K6 K1 o5 ho5 c6 ap l6 hb5 cO y0 y1
      go_wp2_with fail
      refine bodyPost_ret (results_cell_row (P := Try.prog) rfl _ _ (w.heap.size + 1) 31 _ (0, 0) _ rfl R.out Try.underlying31 rfl (by kernel_rfl)) rfl ?_
      rw [HE.out.1, HE.out.2]
      exact ⟨A3, A5, m, n5, c3, c5, rfl, O.out.wide (Nat.le_refl _) (by simp), L.out⟩
end Go.Proofs.Ytegdlegndgdgiaa
