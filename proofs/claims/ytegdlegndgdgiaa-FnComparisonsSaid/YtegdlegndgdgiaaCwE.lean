/- Circuit builders: the copy to which gates are appended. No condition. -/
import Derived.Test.YtegdlegndgdgiaaProg
import Derived.Test.YtegdlegndgdgiaaCwC
import Derived.Test.YtegdlegndgdgiaaCloneI
import Derived.Test.YtegdlegndgdgiaaB1
import Derived.Test.YtegdlegndgdgiaaC1
namespace Go.Proofs.Ytegdlegndgdgiaa
open Go Go.RowKit
/-- A copy of a circuit in a box, both its slices in memory of the call's own. -/
structure Ext (w wr : World) (g : Nat) (v0 v1 : Value) (n m : Nat) (z os : List Int) : Prop where
  cir : Cir w.heap.size g wr v0 v1 n z
  outs : Wl g v0 w.heap.size wr v1 m os
  ge : w.heap.size ≤ g
  low : Below w.heap.size w wr
section
variable {w w4 : World} {g n m B0 B1 : Nat} {v0 v1 : Value} {z os : List Int}
theorem Ext.of_box {T : TypeId} (hz : w4.heap[g]? = some (.cells #[v0, v1] 31 (0, 0))) (o0 : w4.ownsRow B0 45 3 v0 n (intVals z)) (o1 : w4.ownsRow B1 T 1 v1 m (intVals os)) (hT : T = 3) (ne0 : v0.ownBlock ≠ some g) (ne1 : v1.ownBlock ≠ some g) (ap : apart v1 v0) (h0 : w.heap.size ≤ B0) (h1 : w.heap.size ≤ B1) (ge : w.heap.size ≤ g) (low : Below w.heap.size w w4) :
    Ext w w4 g v0 v1 n m z os := by
  subst hT
  exact ⟨⟨hz, own_mono o0 h0, ne0⟩, ⟨own_mono o1 h1, ne1, ap⟩, ge, low⟩
/-- The box was there: it is written. -/
theorem Ext.early {x y : Value} {T : TypeId} (hz : w4.heap[g]? = some (.cells #[x, y] 31 (0, 0))) (o0 : w4.ownsRow B0 45 3 v0 n (intVals z)) (o1 : w4.ownsRow B1 T 1 v1 m (intVals os)) (hT : T = 3) (ne0 : v0.ownBlock ≠ some g) (ne1 : v1.ownBlock ≠ some g) (ap : apart v1 v0) (h0 : w.heap.size ≤ B0) (h1 : w.heap.size ≤ B1) (ge : w.heap.size ≤ g) (low : Below w.heap.size w w4) :
    Ext w ((w4.setCell ⟨g, 0, none⟩ v0).setCell ⟨g, 1, none⟩ v1) g v0 v1 n m z os := by
  have far : ∀ {B : Nat} {T : TypeId} {s q : Nat} {u : Value} {xs : List Value} (_ : w4.ownsRow B T s u q xs) (_ : u.ownBlock ≠ some g), ((w4.setCell ⟨g, 0, none⟩ v0).setCell ⟨g, 1, none⟩ v1).ownsRow B T s u q xs := fun ho hne => by
    refine ⟨ho.1, ?_⟩
    rcases ho.2 with e | ⟨b, cap, cur, e, hb, hh, r⟩
    · exact .inl e
    · refine .inr ⟨b, cap, cur, e, hb, ?_, r⟩
      have hbg : b ≠ g := fun e1 => hne (by rw [e, ← e1]; rfl)
      rw [Below.heap_setCell _ _ _ _ (by simpa using hbg), Below.heap_setCell _ _ _ _ (by simpa using hbg)]
      exact hh
  exact Ext.of_box (heap_set (i := 1) (heap_set (i := 0) hz v0) v1) (far o0 ne0) (far o1 ne1) hT ne0 ne1 ap h0 h1 ge ((low.setCell (p := ⟨g, 0, none⟩) ge _).setCell (p := ⟨g, 1, none⟩) ge _)
/-- The box is made last. -/
theorem Ext.last {T : TypeId} (o0 : w4.ownsRow B0 45 3 v0 n (intVals z)) (o1 : w4.ownsRow B1 T 1 v1 m (intVals os)) (hT : T = 3) (ap : apart v1 v0) (h0 : w.heap.size ≤ B0) (h1 : w.heap.size ≤ B1) (low : Below w.heap.size w w4) :
    Ext w (w4.alloc (.cells #[v0, v1] 31)) w4.heap.size v0 v1 n m z os :=
  Ext.of_box (heap_alloc_new w4 _) (o0.alloc _) (o1.alloc _) hT (fun e => by have := (o0.lt _ e).2; omega) (fun e => by have := (o1.lt _ e).2; omega) ap h0 h1 low.size (low.alloc low.size _)
end
theorem Bx2.of_low {w wr w1 : World} {T T' : TypeId} {xs rs : Array Value} {B : Nat} (h : Bx2 w wr T xs T' rs) (hb : Below B wr w1) (hB : w.heap.size + 1 < B) : Bx2 w w1 T xs T' rs :=
  ⟨(hb.block _ (by omega)).trans h.arg, (hb.block _ hB).trans h.res, h.low.trans (hb.mono (by omega))⟩
/-- A circuit and a list of wires in new memory, apart from each other. -/
def Post_Circuit_A (z0 z1 us : List Int) (w : World) (e : Ending) (w' : World) : Prop :=
  ∃ (A0 A1 : Option Addr) (n0 n1 c0 c1 : Nat) (A2 : Option Addr) (n2 c2 : Nat), e = .returned (.tuple #[.agg #[.slice A0 n0 c0, .slice A1 n1 c1], .slice A2 n2 c2]) ∧ OwnCircuit w.heap.size w'.heap.size w' (.slice A0 n0 c0) (.slice A1 n1 c1) n0 n1 z0 z1 ∧ OwnA 1 w.heap.size w'.heap.size w' (.slice A2 n2 c2) n2 us ∧
    (apart (.slice A2 n2 c2) (.slice A0 n0 c0) ∧ apart (.slice A2 n2 c2) (.slice A1 n1 c1)) ∧ Below w.heap.size w w'
def Post_Circuit_int (z0 z1 : List Int) (x : Int) (w : World) (e : Ending) (w' : World) : Prop :=
  ∃ (A0 A1 : Option Addr) (n0 n1 c0 c1 : Nat), e = .returned (.tuple #[.agg #[.slice A0 n0 c0, .slice A1 n1 c1], .int .i64 x]) ∧ OwnCircuit w.heap.size w'.heap.size w' (.slice A0 n0 c0) (.slice A1 n1 c1) n0 n1 z0 z1 ∧ Below w.heap.size w w'
section
variable {w wr : World} {T : TypeId} {xs rs : Array Value} {B g n m k c0 c1 c2 : Nat} {A0 A1 A2 : Option Addr} {z os us : List Int}
/-- The circuit is stored into the result's box. -/
theorem done_own (h : Cir B g wr (.slice A0 n c0) (.slice A1 m c1) n z) (ho : Wl g (.slice A0 n c0) B wr (.slice A1 m c1) m os) (hB : w.heap.size + 1 < B) :
    OwnCircuit w.heap.size wr.heap.size ((wr.setCell ⟨w.heap.size + 1, 0, none⟩ (.slice A0 n c0)).setCell ⟨w.heap.size + 1, 1, none⟩ (.slice A1 m c1)) (.slice A0 n c0) (.slice A1 m c1) n m z os :=
  ⟨(((OwnA.of_own h.own).setFar hB _).setFar hB _).wide (by omega) (Nat.le_refl _), (((OwnA.of_own ho.own).setFar hB _).setFar hB _).wide (by omega) (Nat.le_refl _), ho.ap.symm⟩
theorem doneL (q : Bx2 w wr T xs 31 rs) (h : Cir B g wr (.slice A0 n c0) (.slice A1 m c1) n z) (ho : Wl g (.slice A0 n c0) B wr (.slice A1 m c1) m os) (hl : Wl g (.slice A0 n c0) B wr (.slice A2 k c2) k us) (ap : apart (.slice A2 k c2) (.slice A1 m c1)) (hB : w.heap.size + 1 < B) :
    Post_Circuit_A z os us w (.returned (.tuple #[.agg #[.slice A0 n c0, .slice A1 m c1], .slice A2 k c2])) ((wr.setCell ⟨w.heap.size + 1, 0, none⟩ (.slice A0 n c0)).setCell ⟨w.heap.size + 1, 1, none⟩ (.slice A1 m c1)) :=
  ⟨A0, A1, n, m, c0, c1, A2, k, c2, rfl, (done_own h ho hB).wide (Nat.le_refl _) (by simp), ((((OwnA.of_own hl.own).setFar hB _).setFar hB _).wide (by omega) (by simp)), ⟨hl.ap, ap⟩, (q.low.setCell (p := ⟨w.heap.size + 1, 0, none⟩) (by simp) _).setCell (p := ⟨w.heap.size + 1, 1, none⟩) (by simp) _⟩
theorem doneI (x : Int) (q : Bx2 w wr T xs 31 rs) (h : Cir B g wr (.slice A0 n c0) (.slice A1 m c1) n z) (ho : Wl g (.slice A0 n c0) B wr (.slice A1 m c1) m os) (hB : w.heap.size + 1 < B) :
    Post_Circuit_int z os x w (.returned (.tuple #[.agg #[.slice A0 n c0, .slice A1 m c1], .int .i64 x])) ((wr.setCell ⟨w.heap.size + 1, 0, none⟩ (.slice A0 n c0)).setCell ⟨w.heap.size + 1, 1, none⟩ (.slice A1 m c1)) :=
  ⟨A0, A1, n, m, c0, c1, rfl, (done_own h ho hB).wide (Nat.le_refl _) (by simp), (q.low.setCell (p := ⟨w.heap.size + 1, 0, none⟩) (by simp) _).setCell (p := ⟨w.heap.size + 1, 1, none⟩) (by simp) _⟩
end

set_option maxRecDepth 100000 in
set_option maxHeartbeats 2000000 in
theorem impl_extendL_no (A0 : Option Addr) (n0 c0 : Nat) (z0 : List Int) (A1 : Option Addr) (n1 c1 : Nat) (z1 : List Int) (f : Value) (w : World) (h0 : Ints w A0 z0) (l0 : z0.length = n0 * 3) (m0 : n0 ≤ 2000000) (h1 : Ints w A1 z1) (l1 : z1.length = n1) (m1 : n1 ≤ 2000000) :
    Calls Try.prog 80 #[.agg #[.slice A0 n0 c0, .slice A1 n1 c1], .bool false, .slice none 0 0, f] w (Post_Circuit_A z0 z1 [] w) := by
  have k0 := Bx2.start w 31 #[.slice A0 n0 c0, .slice A1 n1 c1] 31 #[.slice none 0 0, .slice none 0 0]
  have L0 := Lib.hid l0
  have L1 := Lib.hid l1
  have i0 := h0.bound
  have i1 := h1.bound
  clear l0 l1 h0 h1
  go_enter Try.func80, Try.ntmps80
  go_upto_region 1 with (fail)
  generalize hw0 : (w.alloc (.cells #[.slice A0 n0 c0, .slice A1 n1 c1] 31)).alloc (.cells #[.slice none 0 0, .slice none 0 0] 31) = w0 at *
  clear hw0
  have hs := k0.lt
  have j0 := (i0.below k0.low).ints k0.low.size
  have j1 := (i1.below k0.low).ints k0.low.size
  have x0 := (blk (i := 0) k0.arg rfl).1
  have x1 := (blk (i := 1) k0.arg rfl).1
  go_cut [10] (fun s wx => ∃ (g : Nat) (v0 v1 : Value), s = .pointer (some ⟨g, 0, none⟩) ∧ Ext w0 wx g v0 v1 n0 n1 z0 z1)
  case first =>
    have cC := impl_cloneCircuit A0 A1 c0 c1 n0 n1 z0 z1 w0 j0 L0.out m0 j1 L1.out m1
    go_wp2_with fail
    refine cC.mono ?_
    rintro e w4 ⟨A3, A4, q3, q4, c3, c4, rfl, o3, o4, hap, b4⟩
    have e3 := o3.own.1
    have e4 := o4.own.1
    rw [intVals_length, L0.out] at e3
    rw [intVals_length, L1.out] at e4
    obtain rfl : q3 = n0 := by omega
    obtain rfl : q4 = n1 := by omega
    clear e3 e4
    have E := Lib.hid (Ext.last (w := w0) o3.own o4.own rfl hap.symm (Nat.le_refl _) (Nat.le_refl _) b4)
    clear o3 o4 hap b4 cC
    go_wp2_with fail
    go_meet
    exact ⟨_, _, _, rfl, E.out⟩
  case rest =>
    obtain ⟨g, v0, v1, rfl, hE⟩ := hcut
    obtain ⟨w1, rfl⟩ : ∃ w1 : World, w1 = wc := ⟨_, rfl⟩
    have k1 := k0.next hE.low
    clear x0 x1 j0 j1 i0 i1
    obtain ⟨A3, q3, c3, rfl, rfl⟩ := ownsRow_slice hE.cir.own
    obtain ⟨A4, q4, c4, rfl, rfl⟩ := ownsRow_slice hE.outs.own
    obtain ⟨g0, _⟩ := blk (i := 0) hE.cir.box rfl
    obtain ⟨g1, _⟩ := blk (i := 1) hE.cir.box rfl
    obtain ⟨_, f0⟩ := blk (i := 0) k1.res rfl
    obtain ⟨_, f1⟩ := blk (i := 1) k1.res rfl
    have D := Lib.hid (doneL k1 hE.cir hE.outs (Wl.nil _ _ _ _) (apart.nil _ _ _) hs)
    have R := Lib.hid (heap_set (i := 1) (heap_set (i := 0) k1.res (.slice A3 n0 c3)) (.slice A4 n1 c4))
    clear hE k1 k0
    go_wp2_with fail
    refine bodyPost_ret (results_cell_tmp_row (P := Try.prog) rfl _ _ _ (w.heap.size + 1) 31 _ (0, 0) _ rfl rfl R.out Try.underlying31 rfl (by kernel_rfl)) rfl ?_
    exact D.out
set_option maxRecDepth 100000 in
set_option maxHeartbeats 2000000 in
theorem impl_extendL_yes (A0 : Option Addr) (n0 c0 : Nat) (z0 : List Int) (A1 : Option Addr) (n1 c1 : Nat) (z1 : List Int) (F : Nat) (cs : Array Value) (n' : Nat) (z' us : List Int) (w : World) (h0 : Ints w A0 z0) (l0 : z0.length = n0 * 3) (m0 : n0 ≤ 2000000) (h1 : Ints w A1 z1) (l1 : z1.length = n1) (m1 : n1 ≤ 2000000)
    (hent : ∀ args W, (callFunc F args).run Try.prog W = .ok (.enter F args) W) (hF : ∀ (B g : Nat) (v v1 : Value) (W : World), Cir B g W v v1 n0 z0 → B ≤ W.heap.size → B ≤ g → w.heap.size ≤ B → Below w.heap.size w W → Calls Try.prog F (#[.pointer (some ⟨g, 0, none⟩)] ++ cs) W (PutL B g v1 n' z' us v W)) :
    Calls Try.prog 80 #[.agg #[.slice A0 n0 c0, .slice A1 n1 c1], .bool true, .slice none 0 0, .func (.func F) #[] cs] w (Post_Circuit_A z' z1 us w) := by
  have k0 := Bx2.start w 31 #[.slice A0 n0 c0, .slice A1 n1 c1] 31 #[.slice none 0 0, .slice none 0 0]
  have L0 := Lib.hid l0
  have L1 := Lib.hid l1
  have i0 := h0.bound
  have i1 := h1.bound
  clear l0 l1 h0 h1
  go_enter Try.func80, Try.ntmps80
  go_upto_region 1 with (fail)
  generalize hw0 : (w.alloc (.cells #[.slice A0 n0 c0, .slice A1 n1 c1] 31)).alloc (.cells #[.slice none 0 0, .slice none 0 0] 31) = w0 at *
  clear hw0
  have hs := k0.lt
  have j0 := (i0.below k0.low).ints k0.low.size
  have j1 := (i1.below k0.low).ints k0.low.size
  have x0 := (blk (i := 0) k0.arg rfl).1
  have x1 := (blk (i := 1) k0.arg rfl).1
  go_cut [10] (fun s wx => ∃ (g : Nat) (v0 v1 : Value), s = .pointer (some ⟨g, 0, none⟩) ∧ Ext w0 wx g v0 v1 n0 n1 z0 z1)
  case first =>
    have cC := impl_cloneCircuit A0 A1 c0 c1 n0 n1 z0 z1 w0 j0 L0.out m0 j1 L1.out m1
    go_wp2_with fail
    refine cC.mono ?_
    rintro e w4 ⟨A3, A4, q3, q4, c3, c4, rfl, o3, o4, hap, b4⟩
    have e3 := o3.own.1
    have e4 := o4.own.1
    rw [intVals_length, L0.out] at e3
    rw [intVals_length, L1.out] at e4
    obtain rfl : q3 = n0 := by omega
    obtain rfl : q4 = n1 := by omega
    clear e3 e4
    have E := Lib.hid (Ext.last (w := w0) o3.own o4.own rfl hap.symm (Nat.le_refl _) (Nat.le_refl _) b4)
    clear o3 o4 hap b4 cC
    go_wp2_with fail
    go_meet
    exact ⟨_, _, _, rfl, E.out⟩
  case rest =>
    obtain ⟨g, v0, v1, rfl, hE⟩ := hcut
    obtain ⟨w1, rfl⟩ : ∃ w1 : World, w1 = wc := ⟨_, rfl⟩
    have k1 := k0.next hE.low
    clear x0 x1 j0 j1 i0 i1
    have c1 := hF _ _ _ _ _ hE.cir hE.low.size hE.ge k0.low.size k1.low
    go_wp2_with fail
    refine c1.mono ?_
    rintro e w2 ⟨v', A5, k5, c5, rfl, l5, h5, t5, wl5⟩
    have k2 := k1.of_low (t5.low hE.ge (fun b e => (hE.cir.own.lt b e).1) hE.low.size) hs
    have o5 := hE.outs.turn t5
    obtain ⟨A4, q4, c4, rfl, rfl⟩ := ownsRow_slice hE.outs.own
    obtain ⟨A3, q3, c3, rfl, rfl⟩ := ownsRow_slice h5.own
    have hap : apart (.slice A5 k5 c5) (.slice A4 n1 c4) := fun b e e' => by
      have h1 := (wl5.own.lt b e).1
      have h2 := (hE.outs.own.lt b e').2
      omega
    obtain ⟨g0, _⟩ := blk (i := 0) h5.box rfl
    obtain ⟨g1, _⟩ := blk (i := 1) h5.box rfl
    obtain ⟨_, f0⟩ := blk (i := 0) k2.res rfl
    obtain ⟨_, f1⟩ := blk (i := 1) k2.res rfl
    have D := Lib.hid (doneL k2 h5 o5 (wl5.mono hE.low.size) hap hs)
    have R := Lib.hid (heap_set (i := 1) (heap_set (i := 0) k2.res (.slice A3 n' c3)) (.slice A4 n1 c4))
    clear hE k1 k0 k2 h5 o5 wl5 t5 hap c1 hF
    go_wp2_with fail
    refine bodyPost_ret (results_cell_tmp_row (P := Try.prog) rfl _ _ _ (w.heap.size + 1) 31 _ (0, 0) _ rfl rfl R.out Try.underlying31 rfl (by kernel_rfl)) rfl ?_
    exact D.out
set_option maxRecDepth 100000 in
set_option maxHeartbeats 2000000 in
theorem impl_extendI_no (A0 : Option Addr) (n0 c0 : Nat) (z0 : List Int) (A1 : Option Addr) (n1 c1 : Nat) (z1 : List Int) (f : Value) (w : World) (h0 : Ints w A0 z0) (l0 : z0.length = n0 * 3) (m0 : n0 ≤ 2000000) (h1 : Ints w A1 z1) (l1 : z1.length = n1) (m1 : n1 ≤ 2000000) :
    Calls Try.prog 89 #[.agg #[.slice A0 n0 c0, .slice A1 n1 c1], .bool false, .int .i64 (-1), f] w (Post_Circuit_int z0 z1 (-1) w) := by
  have k0 := Bx2.start w 31 #[.slice A0 n0 c0, .slice A1 n1 c1] 31 #[.slice none 0 0, .slice none 0 0]
  have L0 := Lib.hid l0
  have L1 := Lib.hid l1
  have i0 := h0.bound
  have i1 := h1.bound
  clear l0 l1 h0 h1
  go_enter Try.func89, Try.ntmps89
  go_upto_region 1 with (fail)
  generalize hw0 : (w.alloc (.cells #[.slice A0 n0 c0, .slice A1 n1 c1] 31)).alloc (.cells #[.slice none 0 0, .slice none 0 0] 31) = w0 at *
  clear hw0
  have hs := k0.lt
  have j0 := (i0.below k0.low).ints k0.low.size
  have j1 := (i1.below k0.low).ints k0.low.size
  have x0 := (blk (i := 0) k0.arg rfl).1
  have x1 := (blk (i := 1) k0.arg rfl).1
  go_cut [10] (fun s wx => ∃ (g : Nat) (v0 v1 : Value), s = .pointer (some ⟨g, 0, none⟩) ∧ Ext w0 wx g v0 v1 n0 n1 z0 z1)
  case first =>
    have cC := impl_cloneCircuit A0 A1 c0 c1 n0 n1 z0 z1 w0 j0 L0.out m0 j1 L1.out m1
    go_wp2_with fail
    refine cC.mono ?_
    rintro e w4 ⟨A3, A4, q3, q4, c3, c4, rfl, o3, o4, hap, b4⟩
    have e3 := o3.own.1
    have e4 := o4.own.1
    rw [intVals_length, L0.out] at e3
    rw [intVals_length, L1.out] at e4
    obtain rfl : q3 = n0 := by omega
    obtain rfl : q4 = n1 := by omega
    clear e3 e4
    have E := Lib.hid (Ext.last (w := w0) o3.own o4.own rfl hap.symm (Nat.le_refl _) (Nat.le_refl _) b4)
    clear o3 o4 hap b4 cC
    go_wp2_with fail
    go_meet
    exact ⟨_, _, _, rfl, E.out⟩
  case rest =>
    obtain ⟨g, v0, v1, rfl, hE⟩ := hcut
    obtain ⟨w1, rfl⟩ : ∃ w1 : World, w1 = wc := ⟨_, rfl⟩
    have k1 := k0.next hE.low
    clear x0 x1 j0 j1 i0 i1
    obtain ⟨A3, q3, c3, rfl, rfl⟩ := ownsRow_slice hE.cir.own
    obtain ⟨A4, q4, c4, rfl, rfl⟩ := ownsRow_slice hE.outs.own
    obtain ⟨g0, _⟩ := blk (i := 0) hE.cir.box rfl
    obtain ⟨g1, _⟩ := blk (i := 1) hE.cir.box rfl
    obtain ⟨_, f0⟩ := blk (i := 0) k1.res rfl
    obtain ⟨_, f1⟩ := blk (i := 1) k1.res rfl
    have D := Lib.hid (doneI (-1) k1 hE.cir hE.outs hs)
    have R := Lib.hid (heap_set (i := 1) (heap_set (i := 0) k1.res (.slice A3 n0 c3)) (.slice A4 n1 c4))
    clear hE k1 k0
    go_wp2_with fail
    refine bodyPost_ret (results_cell_tmp_row (P := Try.prog) rfl _ _ _ (w.heap.size + 1) 31 _ (0, 0) _ rfl rfl R.out Try.underlying31 rfl (by kernel_rfl)) rfl ?_
    exact D.out
set_option maxRecDepth 100000 in
set_option maxHeartbeats 2000000 in
theorem impl_extendI_yes (A0 : Option Addr) (n0 c0 : Nat) (z0 : List Int) (A1 : Option Addr) (n1 c1 : Nat) (z1 : List Int) (F : Nat) (cs : Array Value) (n' : Nat) (z' : List Int) (x : Int) (w : World) (h0 : Ints w A0 z0) (l0 : z0.length = n0 * 3) (m0 : n0 ≤ 2000000) (h1 : Ints w A1 z1) (l1 : z1.length = n1) (m1 : n1 ≤ 2000000)
    (hent : ∀ args W, (callFunc F args).run Try.prog W = .ok (.enter F args) W) (hF : ∀ (B g : Nat) (v v1 : Value) (W : World), Cir B g W v v1 n0 z0 → B ≤ W.heap.size → B ≤ g → w.heap.size ≤ B → Below w.heap.size w W → Calls Try.prog F (#[.pointer (some ⟨g, 0, none⟩)] ++ cs) W (PutW B g v1 n' z' x v W)) :
    Calls Try.prog 89 #[.agg #[.slice A0 n0 c0, .slice A1 n1 c1], .bool true, .int .i64 (-1), .func (.func F) #[] cs] w (Post_Circuit_int z' z1 x w) := by
  have k0 := Bx2.start w 31 #[.slice A0 n0 c0, .slice A1 n1 c1] 31 #[.slice none 0 0, .slice none 0 0]
  have L0 := Lib.hid l0
  have L1 := Lib.hid l1
  have i0 := h0.bound
  have i1 := h1.bound
  clear l0 l1 h0 h1
  go_enter Try.func89, Try.ntmps89
  go_upto_region 1 with (fail)
  generalize hw0 : (w.alloc (.cells #[.slice A0 n0 c0, .slice A1 n1 c1] 31)).alloc (.cells #[.slice none 0 0, .slice none 0 0] 31) = w0 at *
  clear hw0
  have hs := k0.lt
  have j0 := (i0.below k0.low).ints k0.low.size
  have j1 := (i1.below k0.low).ints k0.low.size
  have x0 := (blk (i := 0) k0.arg rfl).1
  have x1 := (blk (i := 1) k0.arg rfl).1
  go_cut [10] (fun s wx => ∃ (g : Nat) (v0 v1 : Value), s = .pointer (some ⟨g, 0, none⟩) ∧ Ext w0 wx g v0 v1 n0 n1 z0 z1)
  case first =>
    have cC := impl_cloneCircuit A0 A1 c0 c1 n0 n1 z0 z1 w0 j0 L0.out m0 j1 L1.out m1
    go_wp2_with fail
    refine cC.mono ?_
    rintro e w4 ⟨A3, A4, q3, q4, c3, c4, rfl, o3, o4, hap, b4⟩
    have e3 := o3.own.1
    have e4 := o4.own.1
    rw [intVals_length, L0.out] at e3
    rw [intVals_length, L1.out] at e4
    obtain rfl : q3 = n0 := by omega
    obtain rfl : q4 = n1 := by omega
    clear e3 e4
    have E := Lib.hid (Ext.last (w := w0) o3.own o4.own rfl hap.symm (Nat.le_refl _) (Nat.le_refl _) b4)
    clear o3 o4 hap b4 cC
    go_wp2_with fail
    go_meet
    exact ⟨_, _, _, rfl, E.out⟩
  case rest =>
    obtain ⟨g, v0, v1, rfl, hE⟩ := hcut
    obtain ⟨w1, rfl⟩ : ∃ w1 : World, w1 = wc := ⟨_, rfl⟩
    have k1 := k0.next hE.low
    clear x0 x1 j0 j1 i0 i1
    have c1 := hF _ _ _ _ _ hE.cir hE.low.size hE.ge k0.low.size k1.low
    go_wp2_with fail
    refine c1.mono ?_
    rintro e w2 ⟨v', rfl, h5, t5⟩
    have k2 := k1.of_low (t5.low hE.ge (fun b e => (hE.cir.own.lt b e).1) hE.low.size) hs
    have o5 := hE.outs.turn t5
    obtain ⟨A4, q4, c4, rfl, rfl⟩ := ownsRow_slice hE.outs.own
    obtain ⟨A3, q3, c3, rfl, rfl⟩ := ownsRow_slice h5.own
    obtain ⟨g0, _⟩ := blk (i := 0) h5.box rfl
    obtain ⟨g1, _⟩ := blk (i := 1) h5.box rfl
    obtain ⟨_, f0⟩ := blk (i := 0) k2.res rfl
    obtain ⟨_, f1⟩ := blk (i := 1) k2.res rfl
    have D := Lib.hid (doneI x k2 h5 o5 hs)
    have R := Lib.hid (heap_set (i := 1) (heap_set (i := 0) k2.res (.slice A3 n' c3)) (.slice A4 n1 c4))
    clear hE k1 k0 k2 h5 o5 t5 c1 hF
    go_wp2_with fail
    refine bodyPost_ret (results_cell_tmp_row (P := Try.prog) rfl _ _ _ (w.heap.size + 1) 31 _ (0, 0) _ rfl rfl R.out Try.underlying31 rfl (by kernel_rfl)) rfl ?_
    exact D.out
end Go.Proofs.Ytegdlegndgdgiaa
