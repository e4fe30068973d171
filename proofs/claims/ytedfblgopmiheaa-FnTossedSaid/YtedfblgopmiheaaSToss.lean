/- Structs Toss: copying, comparing, marking. No condition. -/
import Derived.Test.YtedfblgopmiheaaProg
import Derived.Test.YtedfblgopmiheaaBlk
namespace Go.Proofs.Ytedfblgopmiheaa
open Go Go.RowKit
/-- A struct Toss of the call's own: its slices lie in blocks from lo on and below hi, each in its own. -/
structure OwnToss (lo hi : Nat) (w : World) (v0 v1 v2 : Value) (n0 n1 n2 : Nat) (z0 z1 z2 : List Int) : Prop where
  o0 : OwnI lo hi w v0 n0 z0
  o1 : OwnI lo hi w v1 n1 z1
  o2 : OwnI lo hi w v2 n2 z2
  a01 : apart v0 v1
  a02 : apart v0 v2
  a12 : apart v1 v2
section
variable {w w1 : World} {lo hi lo' hi' : Nat} {v0 v1 v2 : Value} {n0 n1 n2 : Nat} {z0 z1 z2 : List Int}
theorem OwnToss.mid (h : OwnToss lo hi w v0 v1 v2 n0 n1 n2 z0 z1 z2) (k : Mid lo' hi' w w1) (hd : hi ≤ lo' ∨ hi' ≤ lo) : OwnToss lo hi w1 v0 v1 v2 n0 n1 n2 z0 z1 z2 := ⟨h.o0.mid k hd, h.o1.mid k hd, h.o2.mid k hd, h.a01, h.a02, h.a12⟩
theorem OwnToss.below (h : OwnToss lo hi w v0 v1 v2 n0 n1 n2 z0 z1 z2) (hb : Below w.heap.size w w1) : OwnToss lo hi w1 v0 v1 v2 n0 n1 n2 z0 z1 z2 := ⟨h.o0.below hb, h.o1.below hb, h.o2.below hb, h.a01, h.a02, h.a12⟩
theorem OwnToss.alloc (h : OwnToss lo hi w v0 v1 v2 n0 n1 n2 z0 z1 z2) (o : Obj) : OwnToss lo hi (w.alloc o) v0 v1 v2 n0 n1 n2 z0 z1 z2 := h.below ((Below.refl _ _).alloc (Nat.le_refl _) _)
theorem OwnToss.wide (h : OwnToss lo hi w v0 v1 v2 n0 n1 n2 z0 z1 z2) (h1 : lo' ≤ lo) (h2 : hi ≤ hi') : OwnToss lo' hi' w v0 v1 v2 n0 n1 n2 z0 z1 z2 := ⟨h.o0.wide h1 h2, h.o1.wide h1 h2, h.o2.wide h1 h2, h.a01, h.a02, h.a12⟩
theorem OwnToss.drew (h : OwnToss lo hi w v0 v1 v2 n0 n1 n2 z0 z1 z2) : OwnToss lo hi w.drew v0 v1 v2 n0 n1 n2 z0 z1 z2 := ⟨h.o0.drew, h.o1.drew, h.o2.drew, h.a01, h.a02, h.a12⟩
theorem OwnToss.drewN (h : OwnToss lo hi w v0 v1 v2 n0 n1 n2 z0 z1 z2) (k : Nat) : OwnToss lo hi (w.drewN k) v0 v1 v2 n0 n1 n2 z0 z1 z2 := ⟨⟨h.o0.own, h.o0.top⟩, ⟨h.o1.own, h.o1.top⟩, ⟨h.o2.own, h.o2.top⟩, h.a01, h.a02, h.a12⟩
theorem OwnToss.setFar {g i : Nat} (h : OwnToss lo hi w v0 v1 v2 n0 n1 n2 z0 z1 z2) (hg : g < lo) (u : Value) : OwnToss lo hi (w.setCell ⟨g, i, none⟩ u) v0 v1 v2 n0 n1 n2 z0 z1 z2 := ⟨h.o0.setFar hg u, h.o1.setFar hg u, h.o2.setFar hg u, h.a01, h.a02, h.a12⟩
theorem OwnToss.setFar' {g i : Nat} (h : OwnToss lo hi w v0 v1 v2 n0 n1 n2 z0 z1 z2) (hg : hi ≤ g) (u : Value) : OwnToss lo hi (w.setCell ⟨g, i, none⟩ u) v0 v1 v2 n0 n1 n2 z0 z1 z2 := ⟨h.o0.setFar' hg u, h.o1.setFar' hg u, h.o2.setFar' hg u, h.a01, h.a02, h.a12⟩
theorem OwnToss.nil (lo hi : Nat) (w : World) : OwnToss lo hi w (.slice none 0 0) (.slice none 0 0) (.slice none 0 0) 0 0 0 [] [] [] := ⟨OwnI.nil _ _ _, OwnI.nil _ _ _, OwnI.nil _ _ _, apart.nil _ _ _, apart.nil _ _ _, apart.nil _ _ _⟩
end
theorem toToss_own (A0 A1 A2 : Option Addr) (c0 c1 c2 : Nat) (n0 n1 n2 : Nat) (z0 z1 z2 : List Int) (w : World) (h0 : Ints w A0 z0) (l0 : z0.length = n0) (m0 : n0 ≤ 2000000) (h1 : Ints w A1 z1) (l1 : z1.length = n1) (m1 : n1 ≤ 2000000) (h2 : Ints w A2 z2) (l2 : z2.length = n2) (m2 : n2 ≤ 2000000) :
    Calls Try.prog 30 #[.agg #[.slice A0 n0 c0, .slice A1 n1 c1, .slice A2 n2 c2]] w fun e w' => ∃ B0 B1 B2, e = .returned (.agg #[.slice B0 n0 n0, .slice B1 n1 n1, .slice B2 n2 n2]) ∧ OwnToss w.heap.size w'.heap.size w' (.slice B0 n0 n0) (.slice B1 n1 n1) (.slice B2 n2 n2) n0 n1 n2 z0 z1 z2 ∧ Below w.heap.size w w' := by
  have L0 := Lib.hid l0
  have L1 := Lib.hid l1
  have L2 := Lib.hid l2
  clear l0 l1 l2
  have k0 := Bx3.start w 43 #[.slice A0 n0 c0, .slice A1 n1 c1, .slice A2 n2 c2] 31 #[.slice none 0 0, .slice none 0 0, .slice none 0 0] 31 #[.slice none 0 0, .slice none 0 0, .slice none 0 0]
  go_enter Try.func30, Try.ntmps30
  go_wp2_with fail
  generalize hw0 : ((w.alloc (.cells #[.slice A0 n0 c0, .slice A1 n1 c1, .slice A2 n2 c2] 43)).alloc (.cells #[.slice none 0 0, .slice none 0 0, .slice none 0 0] 31)).alloc (.cells #[.slice none 0 0, .slice none 0 0, .slice none 0 0] 31) = w0 at *
  obtain ⟨g0, _⟩ := blk (i := 0) k0.two.arg rfl
  obtain ⟨g1, _⟩ := blk (i := 1) k0.two.arg rfl
  obtain ⟨g2, _⟩ := blk (i := 2) k0.two.arg rfl
  obtain ⟨o0, f0⟩ := blk (i := 0) k0.out rfl
  obtain ⟨o1, f1⟩ := blk (i := 1) k0.out rfl
  obtain ⟨o2, f2⟩ := blk (i := 2) k0.out rfl
  clear hw0
  go_wp2_with fail
  refine (toIntS_own A0 n0 c0 z0 w0 ((h0.bound.below k0.two.low).ints k0.two.low.size) L0.out m0).mono ?_
  rintro e u0 ⟨B0, rfl, p0, hb⟩
  have y0 := k0.next hb
  have s0 := k0.lt
  have p0' : OwnI _ _ (u0.setCell ⟨w.heap.size + 1 + 1, 0, none⟩ (.slice B0 n0 n0)) _ _ _ := (p0.setFar (by omega) _)
  have k1 := (y0.setOut 0 (.slice B0 n0 n0)).is (rs' := #[.slice none 0 0, .slice none 0 0, .slice none 0 0]) (ts' := #[.slice B0 n0 n0, .slice none 0 0, .slice none 0 0]) rfl rfl
  have t0 := hb.size
  clear p0 g0 g1 g2 o0 o1 o2 f0 f1 f2
  have p0 := p0'
  clear p0'
  obtain ⟨g0, _⟩ := blk (i := 0) y0.two.arg rfl
  obtain ⟨g1, _⟩ := blk (i := 1) y0.two.arg rfl
  obtain ⟨g2, _⟩ := blk (i := 2) y0.two.arg rfl
  obtain ⟨o0, f0⟩ := blk (i := 0) y0.out rfl
  obtain ⟨o1, f1⟩ := blk (i := 1) y0.out rfl
  obtain ⟨o2, f2⟩ := blk (i := 2) y0.out rfl
  have H0 := Lib.hid p0
  clear p0
  have Y1 := Lib.hid k1
  clear k1 k0 y0 hb
  go_wp2_with fail
  have p0 := H0.out
  clear H0
  have k1 := Y1.out
  clear Y1
  have i0 : u0.heap.size ≤ (u0.setCell ⟨w.heap.size + 1 + 1, 0, none⟩ (.slice B0 n0 n0)).heap.size := by simp
  have j0 : (u0.setCell ⟨w.heap.size + 1 + 1, 0, none⟩ (.slice B0 n0 n0)).heap.size ≤ u0.heap.size := by simp
  generalize (u0.setCell ⟨w.heap.size + 1 + 1, 0, none⟩ (.slice B0 n0 n0)) = w1 at *
  refine (toIntS_own A1 n1 c1 z1 w1 ((h1.bound.below k1.two.low).ints k1.two.low.size) L1.out m1).mono ?_
  rintro e u1 ⟨B1, rfl, p1, hb⟩
  have y1 := k1.next hb
  have s1 := k1.lt
  have p0' : OwnI _ _ (u1.setCell ⟨w.heap.size + 1 + 1, 1, none⟩ (.slice B1 n1 n1)) _ _ _ := ((p0.below hb).setFar (by omega) _)
  have p1' : OwnI _ _ (u1.setCell ⟨w.heap.size + 1 + 1, 1, none⟩ (.slice B1 n1 n1)) _ _ _ := (p1.setFar (by omega) _)
  have k2 := (y1.setOut 1 (.slice B1 n1 n1)).is (rs' := #[.slice none 0 0, .slice none 0 0, .slice none 0 0]) (ts' := #[.slice B0 n0 n0, .slice B1 n1 n1, .slice none 0 0]) rfl rfl
  have t1 := hb.size
  clear p0 p1 g0 g1 g2 o0 o1 o2 f0 f1 f2
  have p0 := p0'
  have p1 := p1'
  clear p0' p1'
  obtain ⟨g0, _⟩ := blk (i := 0) y1.two.arg rfl
  obtain ⟨g1, _⟩ := blk (i := 1) y1.two.arg rfl
  obtain ⟨g2, _⟩ := blk (i := 2) y1.two.arg rfl
  obtain ⟨o0, f0⟩ := blk (i := 0) y1.out rfl
  obtain ⟨o1, f1⟩ := blk (i := 1) y1.out rfl
  obtain ⟨o2, f2⟩ := blk (i := 2) y1.out rfl
  have H0 := Lib.hid p0
  have H1 := Lib.hid p1
  clear p0 p1
  have Y2 := Lib.hid k2
  clear k2 k1 y1 hb
  go_wp2_with fail
  have p0 := H0.out
  have p1 := H1.out
  clear H0 H1
  have k2 := Y2.out
  clear Y2
  have i1 : u1.heap.size ≤ (u1.setCell ⟨w.heap.size + 1 + 1, 1, none⟩ (.slice B1 n1 n1)).heap.size := by simp
  have j1 : (u1.setCell ⟨w.heap.size + 1 + 1, 1, none⟩ (.slice B1 n1 n1)).heap.size ≤ u1.heap.size := by simp
  generalize (u1.setCell ⟨w.heap.size + 1 + 1, 1, none⟩ (.slice B1 n1 n1)) = w2 at *
  refine (toIntS_own A2 n2 c2 z2 w2 ((h2.bound.below k2.two.low).ints k2.two.low.size) L2.out m2).mono ?_
  rintro e u2 ⟨B2, rfl, p2, hb⟩
  have y2 := k2.next hb
  have s2 := k2.lt
  have p0' : OwnI _ _ ((((u2.setCell ⟨w.heap.size + 1 + 1, 2, none⟩ (.slice B2 n2 n2)).setCell ⟨w.heap.size + 1, 0, none⟩ (.slice B0 n0 n0)).setCell ⟨w.heap.size + 1, 1, none⟩ (.slice B1 n1 n1)).setCell ⟨w.heap.size + 1, 2, none⟩ (.slice B2 n2 n2)) _ _ _ := (((((p0.below hb).setFar (by omega) _).setFar (by omega) _).setFar (by omega) _).setFar (by omega) _)
  have p1' : OwnI _ _ ((((u2.setCell ⟨w.heap.size + 1 + 1, 2, none⟩ (.slice B2 n2 n2)).setCell ⟨w.heap.size + 1, 0, none⟩ (.slice B0 n0 n0)).setCell ⟨w.heap.size + 1, 1, none⟩ (.slice B1 n1 n1)).setCell ⟨w.heap.size + 1, 2, none⟩ (.slice B2 n2 n2)) _ _ _ := (((((p1.below hb).setFar (by omega) _).setFar (by omega) _).setFar (by omega) _).setFar (by omega) _)
  have p2' : OwnI _ _ ((((u2.setCell ⟨w.heap.size + 1 + 1, 2, none⟩ (.slice B2 n2 n2)).setCell ⟨w.heap.size + 1, 0, none⟩ (.slice B0 n0 n0)).setCell ⟨w.heap.size + 1, 1, none⟩ (.slice B1 n1 n1)).setCell ⟨w.heap.size + 1, 2, none⟩ (.slice B2 n2 n2)) _ _ _ := ((((p2.setFar (by omega) _).setFar (by omega) _).setFar (by omega) _).setFar (by omega) _)
  have k3 := ((((y2.setOut 2 (.slice B2 n2 n2)).setRes 0 (.slice B0 n0 n0)).setRes 1 (.slice B1 n1 n1)).setRes 2 (.slice B2 n2 n2)).is (rs' := #[.slice B0 n0 n0, .slice B1 n1 n1, .slice B2 n2 n2]) (ts' := #[.slice B0 n0 n0, .slice B1 n1 n1, .slice B2 n2 n2]) rfl rfl
  have t2 := hb.size
  clear p0 p1 p2 g0 g1 g2 o0 o1 o2 f0 f1 f2
  have p0 := p0'
  have p1 := p1'
  have p2 := p2'
  clear p0' p1' p2'
  obtain ⟨g0, _⟩ := blk (i := 0) y2.two.arg rfl
  obtain ⟨g1, _⟩ := blk (i := 1) y2.two.arg rfl
  obtain ⟨g2, _⟩ := blk (i := 2) y2.two.arg rfl
  obtain ⟨o0, f0⟩ := blk (i := 0) y2.out rfl
  obtain ⟨o1, f1⟩ := blk (i := 1) y2.out rfl
  obtain ⟨o2, f2⟩ := blk (i := 2) y2.out rfl
  obtain ⟨_, e0⟩ := blk (i := 0) y2.two.res rfl
  obtain ⟨_, e1⟩ := blk (i := 1) y2.two.res rfl
  obtain ⟨_, e2⟩ := blk (i := 2) y2.two.res rfl
  have H0 := Lib.hid p0
  have H1 := Lib.hid p1
  have H2 := Lib.hid p2
  clear p0 p1 p2
  have Y3 := Lib.hid k3
  clear k3 k2 y2 hb
  go_wp2_with fail
  have p0 := H0.out
  have p1 := H1.out
  have p2 := H2.out
  clear H0 H1 H2
  have k3 := Y3.out
  clear Y3
  have i2 : u2.heap.size ≤ ((((u2.setCell ⟨w.heap.size + 1 + 1, 2, none⟩ (.slice B2 n2 n2)).setCell ⟨w.heap.size + 1, 0, none⟩ (.slice B0 n0 n0)).setCell ⟨w.heap.size + 1, 1, none⟩ (.slice B1 n1 n1)).setCell ⟨w.heap.size + 1, 2, none⟩ (.slice B2 n2 n2)).heap.size := by simp
  have j2 : ((((u2.setCell ⟨w.heap.size + 1 + 1, 2, none⟩ (.slice B2 n2 n2)).setCell ⟨w.heap.size + 1, 0, none⟩ (.slice B0 n0 n0)).setCell ⟨w.heap.size + 1, 1, none⟩ (.slice B1 n1 n1)).setCell ⟨w.heap.size + 1, 2, none⟩ (.slice B2 n2 n2)).heap.size ≤ u2.heap.size := by simp
  generalize ((((u2.setCell ⟨w.heap.size + 1 + 1, 2, none⟩ (.slice B2 n2 n2)).setCell ⟨w.heap.size + 1, 0, none⟩ (.slice B0 n0 n0)).setCell ⟨w.heap.size + 1, 1, none⟩ (.slice B1 n1 n1)).setCell ⟨w.heap.size + 1, 2, none⟩ (.slice B2 n2 n2)) = w3 at *
  (try simp only [Exit.inBlock, Exit.then])
  refine bodyPost_ret (results_cell_row (P := Try.prog) rfl _ _ (w.heap.size + 1) 31 _ (0, 0) _ rfl k3.two.res Try.underlying31 rfl (by kernel_rfl)) rfl ?_
  exact ⟨_, _, _, rfl, ⟨p0.wide (by omega) (by omega), p1.wide (by omega) (by omega), p2.wide (by omega) (by omega), p0.apart_of p1 (by omega), p0.apart_of p2 (by omega), p1.apart_of p2 (by omega)⟩, k3.two.low⟩
theorem eqToss_same (A0 A1 A2 : Option Addr) (c0 c1 c2 : Nat) (B0 B1 B2 : Option Addr) (d0 d1 d2 : Nat) (n0 n1 n2 : Nat) (z0 z1 z2 : List Int) (w : World) (h0 : Ints w A0 z0) (k0 : Ints w B0 z0) (l0 : z0.length = n0) (m0 : n0 ≤ 2000000) (h1 : Ints w A1 z1) (k1 : Ints w B1 z1) (l1 : z1.length = n1) (m1 : n1 ≤ 2000000) (h2 : Ints w A2 z2) (k2 : Ints w B2 z2) (l2 : z2.length = n2) (m2 : n2 ≤ 2000000) :
    Calls Try.prog 23 #[.agg #[.slice A0 n0 c0, .slice A1 n1 c1, .slice A2 n2 c2], .agg #[.slice B0 n0 d0, .slice B1 n1 d1, .slice B2 n2 d2]] w fun e w' => e = .returned (.bool true) ∧ Below w.heap.size w w' := by
  have L0 := Lib.hid l0
  have L1 := Lib.hid l1
  have L2 := Lib.hid l2
  clear l0 l1 l2
  have q0 := Bx2.start w 31 #[.slice A0 n0 c0, .slice A1 n1 c1, .slice A2 n2 c2] 31 #[.slice B0 n0 d0, .slice B1 n1 d1, .slice B2 n2 d2]
  go_enter Try.func23, Try.ntmps23
  go_wp2_with fail
  generalize hw0 : (w.alloc (.cells #[.slice A0 n0 c0, .slice A1 n1 c1, .slice A2 n2 c2] 31)).alloc (.cells #[.slice B0 n0 d0, .slice B1 n1 d1, .slice B2 n2 d2] 31) = w0 at *
  clear hw0
  obtain ⟨g0, _⟩ := blk (i := 0) q0.arg rfl
  obtain ⟨o0, _⟩ := blk (i := 0) q0.res rfl
  obtain ⟨g1, _⟩ := blk (i := 1) q0.arg rfl
  obtain ⟨o1, _⟩ := blk (i := 1) q0.res rfl
  obtain ⟨g2, _⟩ := blk (i := 2) q0.arg rfl
  obtain ⟨o2, _⟩ := blk (i := 2) q0.res rfl
  go_wp2_with fail
  refine (eqIntS_same n0 n0 c0 d0 A0 B0 z0 z0 w0 ((h0.bound.below q0.low).ints q0.low.size) ((k0.bound.below q0.low).ints q0.low.size) rfl L0.out L0.out (by omega)).mono ?_
  rintro e w1 ⟨rfl, hb⟩
  have q1 := q0.next hb
  clear hb g0 o0 g1 o1 g2 o2
  obtain ⟨g0, _⟩ := blk (i := 0) q1.arg rfl
  obtain ⟨o0, _⟩ := blk (i := 0) q1.res rfl
  obtain ⟨g1, _⟩ := blk (i := 1) q1.arg rfl
  obtain ⟨o1, _⟩ := blk (i := 1) q1.res rfl
  obtain ⟨g2, _⟩ := blk (i := 2) q1.arg rfl
  obtain ⟨o2, _⟩ := blk (i := 2) q1.res rfl
  go_wp2_with fail
  refine (eqIntS_same n1 n1 c1 d1 A1 B1 z1 z1 w1 ((h1.bound.below q1.low).ints q1.low.size) ((k1.bound.below q1.low).ints q1.low.size) rfl L1.out L1.out (by omega)).mono ?_
  rintro e w2 ⟨rfl, hb⟩
  have q2 := q1.next hb
  clear hb g0 o0 g1 o1 g2 o2
  obtain ⟨g0, _⟩ := blk (i := 0) q2.arg rfl
  obtain ⟨o0, _⟩ := blk (i := 0) q2.res rfl
  obtain ⟨g1, _⟩ := blk (i := 1) q2.arg rfl
  obtain ⟨o1, _⟩ := blk (i := 1) q2.res rfl
  obtain ⟨g2, _⟩ := blk (i := 2) q2.arg rfl
  obtain ⟨o2, _⟩ := blk (i := 2) q2.res rfl
  go_wp2_with fail
  refine (eqIntS_same n2 n2 c2 d2 A2 B2 z2 z2 w2 ((h2.bound.below q2.low).ints q2.low.size) ((k2.bound.below q2.low).ints q2.low.size) rfl L2.out L2.out (by omega)).mono ?_
  rintro e w3 ⟨rfl, hb⟩
  have q3 := q2.next hb
  clear hb g0 o0 g1 o1 g2 o2
  obtain ⟨g0, _⟩ := blk (i := 0) q3.arg rfl
  obtain ⟨o0, _⟩ := blk (i := 0) q3.res rfl
  obtain ⟨g1, _⟩ := blk (i := 1) q3.arg rfl
  obtain ⟨o1, _⟩ := blk (i := 1) q3.res rfl
  obtain ⟨g2, _⟩ := blk (i := 2) q3.arg rfl
  obtain ⟨o2, _⟩ := blk (i := 2) q3.res rfl
  go_wp2_with fail
  go_ret
  exact ⟨rfl, q3.low⟩
theorem markToss_own (lo hi k : Nat) (A0 A1 A2 : Option Addr) (c0 c1 c2 : Nat) (n0 n1 n2 : Nat) (z0 z1 z2 : List Int) (w : World) (h : OwnToss lo hi w (.slice A0 n0 c0) (.slice A1 n1 c1) (.slice A2 n2 c2) n0 n1 n2 z0 z1 z2) (hhi : hi ≤ w.heap.size) (hn : n0 + n1 + n2 + k ≤ 1000000000) :
    Calls Try.prog 26 #[.agg #[.slice A0 n0 c0, .slice A1 n1 c1, .slice A2 n2 c2], .int .i64 (k : Int)] w fun e w' => e = .returned (.int .i64 ((k + n0 + n1 + n2 : Nat) : Int)) ∧ OwnToss lo hi w' (.slice A0 n0 c0) (.slice A1 n1 c1) (.slice A2 n2 c2) n0 n1 n2 (markInts (k) n0) (markInts (k + n0) n1) (markInts (k + n0 + n1) n2) ∧ Mid lo hi w w' := by
  have b0 := heap_alloc_new w (.cells #[.slice A0 n0 c0, .slice A1 n1 c1, .slice A2 n2 c2] 31)
  have h0 := h.alloc (.cells #[.slice A0 n0 c0, .slice A1 n1 c1, .slice A2 n2 c2] 31)
  have m0 : Mid lo hi w (w.alloc (.cells #[.slice A0 n0 c0, .slice A1 n1 c1, .slice A2 n2 c2] 31)) := Mid.of_below ((Below.refl _ _).alloc (Nat.le_refl _) _) _ _
  go_enter Try.func26, Try.ntmps26
  go_wp2_with fail
  generalize hw0 : w.alloc (.cells #[.slice A0 n0 c0, .slice A1 n1 c1, .slice A2 n2 c2] 31) = w0 at *
  clear hw0 h
  obtain ⟨g0, _⟩ := blk (i := 0) b0 rfl
  obtain ⟨g1, _⟩ := blk (i := 1) b0 rfl
  obtain ⟨g2, _⟩ := blk (i := 2) b0 rfl
  go_wp2_with fail
  refine (markIntS_own lo hi n0 (k) (.slice A0 n0 c0) z0 w0 h0.o0 (by omega)).mono ?_
  rintro e w1 ⟨rfl, p, hg⟩
  have b1 := heap_grown b0 hg (fun e => by have := p.top _ e; omega)
  have m1 := m0.trans (Mid.of_grown hg (fun g e => p.ltB e))
  have h1 : OwnToss lo hi w1 (.slice A0 n0 c0) (.slice A1 n1 c1) (.slice A2 n2 c2) n0 n1 n2 (markInts (k) n0) z1 z2 := ⟨p, h0.o1.keep hg h0.a01.symm, h0.o2.keep hg h0.a02.symm, h0.a01, h0.a02, h0.a12⟩
  clear g0 g1 g2 hg p h0 m0 b0
  obtain ⟨g0, _⟩ := blk (i := 0) b1 rfl
  obtain ⟨g1, _⟩ := blk (i := 1) b1 rfl
  obtain ⟨g2, _⟩ := blk (i := 2) b1 rfl
  go_wp2_with fail
  refine (markIntS_own lo hi n1 (k + n0) (.slice A1 n1 c1) z1 w1 h1.o1 (by omega)).mono ?_
  rintro e w2 ⟨rfl, p, hg⟩
  have b2 := heap_grown b1 hg (fun e => by have := p.top _ e; omega)
  have m2 := m1.trans (Mid.of_grown hg (fun g e => p.ltB e))
  have h2 : OwnToss lo hi w2 (.slice A0 n0 c0) (.slice A1 n1 c1) (.slice A2 n2 c2) n0 n1 n2 (markInts (k) n0) (markInts (k + n0) n1) z2 := ⟨h1.o0.keep hg h1.a01, p, h1.o2.keep hg h1.a12.symm, h1.a01, h1.a02, h1.a12⟩
  clear g0 g1 g2 hg p h1 m1 b1
  obtain ⟨g0, _⟩ := blk (i := 0) b2 rfl
  obtain ⟨g1, _⟩ := blk (i := 1) b2 rfl
  obtain ⟨g2, _⟩ := blk (i := 2) b2 rfl
  go_wp2_with fail
  refine (markIntS_own lo hi n2 (k + n0 + n1) (.slice A2 n2 c2) z2 w2 h2.o2 (by omega)).mono ?_
  rintro e w3 ⟨rfl, p, hg⟩
  have b3 := heap_grown b2 hg (fun e => by have := p.top _ e; omega)
  have m3 := m2.trans (Mid.of_grown hg (fun g e => p.ltB e))
  have h3 : OwnToss lo hi w3 (.slice A0 n0 c0) (.slice A1 n1 c1) (.slice A2 n2 c2) n0 n1 n2 (markInts (k) n0) (markInts (k + n0) n1) (markInts (k + n0 + n1) n2) := ⟨h2.o0.keep hg h2.a02, h2.o1.keep hg h2.a12, p, h2.a01, h2.a02, h2.a12⟩
  clear g0 g1 g2 hg p h2 m2 b2
  obtain ⟨g0, _⟩ := blk (i := 0) b3 rfl
  obtain ⟨g1, _⟩ := blk (i := 1) b3 rfl
  obtain ⟨g2, _⟩ := blk (i := 2) b3 rfl
  go_wp2_with fail
  go_ret
  exact ⟨ret_int (by simp; try omega), h3, m3⟩
theorem heldToss_any (k : Nat) (A0 A1 A2 : Option Addr) (c0 c1 c2 : Nat) (n0 n1 n2 : Nat) (w : World) (h0 : Ints w A0 (markInts (k) n0)) (h1 : Ints w A1 (markInts (k + n0) n1)) (h2 : Ints w A2 (markInts (k + n0 + n1) n2)) (hn : n0 + n1 + n2 + k ≤ 1000000000) :
    Calls Try.prog 27 #[.agg #[.slice A0 n0 c0, .slice A1 n1 c1, .slice A2 n2 c2], .int .i64 (k : Int)] w fun e w' => e = .returned (.int .i64 ((k + n0 + n1 + n2 : Nat) : Int)) ∧ Below w.heap.size w w' := by
  have b0 := heap_alloc_new w (.cells #[.slice A0 n0 c0, .slice A1 n1 c1, .slice A2 n2 c2] 31)
  have m0 : Below w.heap.size w (w.alloc (.cells #[.slice A0 n0 c0, .slice A1 n1 c1, .slice A2 n2 c2] 31)) := (Below.refl _ _).alloc (Nat.le_refl _) _
  go_enter Try.func27, Try.ntmps27
  go_wp2_with fail
  generalize hw0 : w.alloc (.cells #[.slice A0 n0 c0, .slice A1 n1 c1, .slice A2 n2 c2] 31) = w0 at *
  clear hw0
  obtain ⟨g0, _⟩ := blk (i := 0) b0 rfl
  obtain ⟨g1, _⟩ := blk (i := 1) b0 rfl
  obtain ⟨g2, _⟩ := blk (i := 2) b0 rfl
  go_wp2_with fail
  refine (heldIntS_any n0 (k) c0 A0 w0 ((h0.bound.below m0).ints m0.size) (by omega)).mono ?_
  rintro e w1 ⟨rfl, rfl⟩
  go_wp2_with fail
  refine (heldIntS_any n1 (k + n0) c1 A1 w0 ((h1.bound.below m0).ints m0.size) (by omega)).mono ?_
  rintro e w1 ⟨rfl, rfl⟩
  go_wp2_with fail
  refine (heldIntS_any n2 (k + n0 + n1) c2 A2 w0 ((h2.bound.below m0).ints m0.size) (by omega)).mono ?_
  rintro e w1 ⟨rfl, rfl⟩
  go_wp2_with fail
  go_ret
  exact ⟨ret_int (by simp; try omega), m0⟩
theorem szToss_any (left : Nat) (A0 A1 A2 : Option Addr) (c0 c1 c2 : Nat) (n0 n1 n2 : Nat) (w : World) (hl : left ≤ 1048576) (l0 : n0 ≤ 9223372036854775807) (l1 : n1 ≤ 9223372036854775807) (l2 : n2 ≤ 9223372036854775807) :
    Calls Try.prog 28 #[.agg #[.slice A0 n0 c0, .slice A1 n1 c1, .slice A2 n2 c2], .int .i64 (left : Int)] w (Sized left (n0 + n1 + n2) w) := by
  have b0 := heap_alloc_new w (.cells #[.slice A0 n0 c0, .slice A1 n1 c1, .slice A2 n2 c2] 43)
  have m0 : Below w.heap.size w (w.alloc (.cells #[.slice A0 n0 c0, .slice A1 n1 c1, .slice A2 n2 c2] 43)) := (Below.refl _ _).alloc (Nat.le_refl _) _
  go_enter Try.func28, Try.ntmps28
  go_wp2_with fail
  generalize hw0 : w.alloc (.cells #[.slice A0 n0 c0, .slice A1 n1 c1, .slice A2 n2 c2] 43) = w0 at *
  clear hw0
  obtain ⟨g0, _⟩ := blk (i := 0) b0 rfl
  obtain ⟨g1, _⟩ := blk (i := 1) b0 rfl
  obtain ⟨g2, _⟩ := blk (i := 2) b0 rfl
  go_wp2_with fail
  refine (szIntS_any (left) A0 n0 c0 w0 (by omega) l0).mono ?_
  rintro e w1 ⟨hr, rfl⟩
  by_cases hc0 : n0 ≤ left
  · obtain rfl := szRes_yes hr hc0
    go_wp2_with fail
    refine (szIntS_any (left - n0) A1 n1 c1 w0 (by omega) l1).mono ?_
    rintro e w1 ⟨hr, rfl⟩
    by_cases hc1 : n1 ≤ left - n0
    · obtain rfl := szRes_yes hr hc1
      go_wp2_with fail
      refine (szIntS_any (left - n0 - n1) A2 n2 c2 w0 (by omega) l2).mono ?_
      rintro e w1 ⟨hr, rfl⟩
      by_cases hc2 : n2 ≤ left - n0 - n1
      · obtain rfl := szRes_yes hr hc2
        go_wp2_with fail
        go_ret
        exact Sized.yes m0 (by omega)
      · obtain rfl := szRes_no hr hc2
        go_wp2_with fail
        go_ret
        exact Sized.no m0 (by omega)
    · obtain rfl := szRes_no hr hc1
      go_wp2_with fail
      go_ret
      exact Sized.no m0 (by omega)
  · obtain rfl := szRes_no hr hc0
    go_wp2_with fail
    go_ret
    exact Sized.no m0 (by omega)
end Go.Proofs.Ytedfblgopmiheaa
