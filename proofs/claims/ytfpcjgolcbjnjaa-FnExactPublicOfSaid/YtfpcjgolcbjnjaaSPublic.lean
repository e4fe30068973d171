/- Structs Public: copying, comparing, marking. No condition. -/
import Derived.Test.YtfpcjgolcbjnjaaProg
import Derived.Test.YtfpcjgolcbjnjaaB1
namespace Go.Proofs.Ytfpcjgolcbjnjaa
open Go Go.RowKit
/-- A struct Public of the call's own: its slices lie in blocks from lo on and below hi, each in its own. -/
structure OwnPublic (lo hi : Nat) (w : World) (v0 v1 v2 : Value) (n0 n1 n2 : Nat) (z0 z1 z2 : List Int) : Prop where
  o0 : OwnA 1 lo hi w v0 n0 z0
  o1 : OwnA 1 lo hi w v1 n1 z1
  o2 : OwnA 1 lo hi w v2 n2 z2
  a01 : apart v0 v1
  a02 : apart v0 v2
  a12 : apart v1 v2
section
variable {w w1 : World} {lo hi lo' hi' : Nat} {v0 v1 v2 : Value} {n0 n1 n2 : Nat} {z0 z1 z2 : List Int}
theorem OwnPublic.mid (h : OwnPublic lo hi w v0 v1 v2 n0 n1 n2 z0 z1 z2) (k : Mid lo' hi' w w1) (hd : hi ≤ lo' ∨ hi' ≤ lo) : OwnPublic lo hi w1 v0 v1 v2 n0 n1 n2 z0 z1 z2 := ⟨h.o0.mid k hd, h.o1.mid k hd, h.o2.mid k hd, h.a01, h.a02, h.a12⟩
theorem OwnPublic.below (h : OwnPublic lo hi w v0 v1 v2 n0 n1 n2 z0 z1 z2) (hb : Below w.heap.size w w1) : OwnPublic lo hi w1 v0 v1 v2 n0 n1 n2 z0 z1 z2 := ⟨h.o0.below hb, h.o1.below hb, h.o2.below hb, h.a01, h.a02, h.a12⟩
theorem OwnPublic.alloc (h : OwnPublic lo hi w v0 v1 v2 n0 n1 n2 z0 z1 z2) (o : Obj) : OwnPublic lo hi (w.alloc o) v0 v1 v2 n0 n1 n2 z0 z1 z2 := h.below ((Below.refl _ _).alloc (Nat.le_refl _) _)
theorem OwnPublic.wide (h : OwnPublic lo hi w v0 v1 v2 n0 n1 n2 z0 z1 z2) (h1 : lo' ≤ lo) (h2 : hi ≤ hi') : OwnPublic lo' hi' w v0 v1 v2 n0 n1 n2 z0 z1 z2 := ⟨h.o0.wide h1 h2, h.o1.wide h1 h2, h.o2.wide h1 h2, h.a01, h.a02, h.a12⟩
theorem OwnPublic.drew (h : OwnPublic lo hi w v0 v1 v2 n0 n1 n2 z0 z1 z2) : OwnPublic lo hi w.drew v0 v1 v2 n0 n1 n2 z0 z1 z2 := ⟨h.o0.drew, h.o1.drew, h.o2.drew, h.a01, h.a02, h.a12⟩
theorem OwnPublic.drewN (h : OwnPublic lo hi w v0 v1 v2 n0 n1 n2 z0 z1 z2) (k : Nat) : OwnPublic lo hi (w.drewN k) v0 v1 v2 n0 n1 n2 z0 z1 z2 := ⟨h.o0.drewN k, h.o1.drewN k, h.o2.drewN k, h.a01, h.a02, h.a12⟩
theorem OwnPublic.setFar {g i : Nat} (h : OwnPublic lo hi w v0 v1 v2 n0 n1 n2 z0 z1 z2) (hg : g < lo) (u : Value) : OwnPublic lo hi (w.setCell ⟨g, i, none⟩ u) v0 v1 v2 n0 n1 n2 z0 z1 z2 := ⟨h.o0.setFar hg u, h.o1.setFar hg u, h.o2.setFar hg u, h.a01, h.a02, h.a12⟩
theorem OwnPublic.setFar' {g i : Nat} (h : OwnPublic lo hi w v0 v1 v2 n0 n1 n2 z0 z1 z2) (hg : hi ≤ g) (u : Value) : OwnPublic lo hi (w.setCell ⟨g, i, none⟩ u) v0 v1 v2 n0 n1 n2 z0 z1 z2 := ⟨h.o0.setFar' hg u, h.o1.setFar' hg u, h.o2.setFar' hg u, h.a01, h.a02, h.a12⟩
theorem OwnPublic.nil (lo hi : Nat) (w : World) : OwnPublic lo hi w (.slice none 0 0) (.slice none 0 0) (.slice none 0 0) 0 0 0 [] [] [] := ⟨OwnA.nil _ _ _ _, OwnA.nil _ _ _ _, OwnA.nil _ _ _ _, apart.nil _ _ _, apart.nil _ _ _, apart.nil _ _ _⟩
end
/-- A struct Public in new memory. -/
def Post_Public (z0 : List Int) (z1 : List Int) (z2 : List Int) (w : World) (e : Ending) (w' : World) : Prop :=
  ∃ (A0 A1 A2 : Option Addr) (n0 n1 n2 c0 c1 c2 : Nat), e = .returned (.agg #[.slice A0 n0 c0, .slice A1 n1 c1, .slice A2 n2 c2]) ∧ OwnPublic w.heap.size w'.heap.size w' (.slice A0 n0 c0) (.slice A1 n1 c1) (.slice A2 n2 c2) n0 n1 n2 z0 z1 z2 ∧ Below w.heap.size w w'
/-- A struct Public that a call made, and the box that holds it: all new since W. -/
structure BxdPublic (W wx : World) (p lo hi : Nat) (A0 A1 A2 : Option Addr) (n0 n1 n2 c0 c1 c2 : Nat) (z0 : List Int) (z1 : List Int) (z2 : List Int) : Prop where
  own : OwnPublic lo hi wx (.slice A0 n0 c0) (.slice A1 n1 c1) (.slice A2 n2 c2) n0 n1 n2 z0 z1 z2
  box : wx.heap[p]? = some (.cells #[.slice A0 n0 c0, .slice A1 n1 c1, .slice A2 n2 c2] 37 (0, 0))
  at_ : W.heap.size ≤ lo ∧ hi ≤ wx.heap.size ∧ W.heap.size ≤ p ∧ p < wx.heap.size ∧ (p < lo ∨ hi ≤ p)
  low : Below W.heap.size W wx
section
variable {W w w' : World} {A0 A1 A2 : Option Addr} {n0 n1 n2 c0 c1 c2 p : Nat} {z0 z1 z2 : List Int} {u : Array Value}
theorem BxdPublic.last (o : OwnPublic w.heap.size w'.heap.size w' (.slice A0 n0 c0) (.slice A1 n1 c1) (.slice A2 n2 c2) n0 n1 n2 z0 z1 z2) (hl : Below W.heap.size W w') (hw : W.heap.size ≤ w.heap.size) :
    BxdPublic W (w'.alloc (.cells #[.slice A0 n0 c0, .slice A1 n1 c1, .slice A2 n2 c2] 37)) w'.heap.size w.heap.size w'.heap.size A0 A1 A2 n0 n1 n2 c0 c1 c2 z0 z1 z2 :=
  ⟨o.alloc _, heap_alloc_new w' _, ⟨hw, by simp, hl.size, by simp, .inr (Nat.le_refl _)⟩, hl.alloc hl.size _⟩
theorem BxdPublic.early (o : OwnPublic w.heap.size w'.heap.size w' (.slice A0 n0 c0) (.slice A1 n1 c1) (.slice A2 n2 c2) n0 n1 n2 z0 z1 z2) (hl : Below W.heap.size W w') (hw : W.heap.size ≤ w.heap.size) (hb : w'.heap[p]? = some (.cells #[.slice none 0 0, .slice none 0 0, .slice none 0 0] 37 (0, 0))) (hp : p < w.heap.size) (hW : W.heap.size ≤ p) :
    BxdPublic W (((w'.setCell ⟨p, 0, none⟩ (.slice A0 n0 c0)).setCell ⟨p, 1, none⟩ (.slice A1 n1 c1)).setCell ⟨p, 2, none⟩ (.slice A2 n2 c2)) p w.heap.size w'.heap.size A0 A1 A2 n0 n1 n2 c0 c1 c2 z0 z1 z2 :=
  ⟨(((o.setFar (g := p) (i := 0) hp _).setFar (g := p) (i := 1) hp _).setFar (g := p) (i := 2) hp _), (heap_set (i := 2) (heap_set (i := 1) (heap_set (i := 0) hb (.slice A0 n0 c0)) (.slice A1 n1 c1)) (.slice A2 n2 c2)), ⟨hw, by simp, hW, by have := heap_lt hb; simpa using this, .inl hp⟩, (((hl.setCell (p := ⟨p, 0, none⟩) hW _).setCell (p := ⟨p, 1, none⟩) hW _).setCell (p := ⟨p, 2, none⟩) hW _)⟩
end
theorem eqPublic_same (A0 A1 A2 : Option Addr) (c0 c1 c2 : Nat) (B0 B1 B2 : Option Addr) (d0 d1 d2 : Nat) (n0 n1 n2 : Nat) (z0 z1 z2 : List Int) (w : World) (h0 : Ints w A0 z0) (k0 : Ints w B0 z0) (l0 : z0.length = n0) (m0 : n0 ≤ 2000000) (h1 : Ints w A1 z1) (k1 : Ints w B1 z1) (l1 : z1.length = n1) (m1 : n1 ≤ 2000000) (h2 : Ints w A2 z2) (k2 : Ints w B2 z2) (l2 : z2.length = n2) (m2 : n2 ≤ 2000000) :
    Calls Try.prog 35 #[.agg #[.slice A0 n0 c0, .slice A1 n1 c1, .slice A2 n2 c2], .agg #[.slice B0 n0 d0, .slice B1 n1 d1, .slice B2 n2 d2]] w fun e w' => e = .returned (.bool true) ∧ Below w.heap.size w w' := by
  have L0 := Lib.hid l0
  have L1 := Lib.hid l1
  have L2 := Lib.hid l2
  clear l0 l1 l2
  have q0 := Bx2.start w 37 #[.slice A0 n0 c0, .slice A1 n1 c1, .slice A2 n2 c2] 37 #[.slice B0 n0 d0, .slice B1 n1 d1, .slice B2 n2 d2]
  go_enter Try.func35, Try.ntmps35
  go_wp2_with fail
  generalize hw0 : (w.alloc (.cells #[.slice A0 n0 c0, .slice A1 n1 c1, .slice A2 n2 c2] 37)).alloc (.cells #[.slice B0 n0 d0, .slice B1 n1 d1, .slice B2 n2 d2] 37) = w0 at *
  clear hw0
  obtain ⟨g0, _⟩ := blk (i := 0) q0.arg rfl
  obtain ⟨o0, _⟩ := blk (i := 0) q0.res rfl
  obtain ⟨g1, _⟩ := blk (i := 1) q0.arg rfl
  obtain ⟨o1, _⟩ := blk (i := 1) q0.res rfl
  obtain ⟨g2, _⟩ := blk (i := 2) q0.arg rfl
  obtain ⟨o2, _⟩ := blk (i := 2) q0.res rfl
  go_wp2_with fail
  refine (eqIntS_same n0 n0 c0 d0 A0 B0 z0 z0 w0 ((h0.bound.below q0.low).ints q0.low.size) ((k0.bound.below q0.low).ints q0.low.size) rfl L0.out L0.out (by omega)).mono ?_
  rintro e w1 ⟨rfl, hb⟩
  have q1 := q0.next hb
  clear hb g0 o0 g1 o1 g2 o2
  obtain ⟨g0, _⟩ := blk (i := 0) q1.arg rfl
  obtain ⟨o0, _⟩ := blk (i := 0) q1.res rfl
  obtain ⟨g1, _⟩ := blk (i := 1) q1.arg rfl
  obtain ⟨o1, _⟩ := blk (i := 1) q1.res rfl
  obtain ⟨g2, _⟩ := blk (i := 2) q1.arg rfl
  obtain ⟨o2, _⟩ := blk (i := 2) q1.res rfl
  go_wp2_with fail
  refine (eqIntS_same n1 n1 c1 d1 A1 B1 z1 z1 w1 ((h1.bound.below q1.low).ints q1.low.size) ((k1.bound.below q1.low).ints q1.low.size) rfl L1.out L1.out (by omega)).mono ?_
  rintro e w2 ⟨rfl, hb⟩
  have q2 := q1.next hb
  clear hb g0 o0 g1 o1 g2 o2
  obtain ⟨g0, _⟩ := blk (i := 0) q2.arg rfl
  obtain ⟨o0, _⟩ := blk (i := 0) q2.res rfl
  obtain ⟨g1, _⟩ := blk (i := 1) q2.arg rfl
  obtain ⟨o1, _⟩ := blk (i := 1) q2.res rfl
  obtain ⟨g2, _⟩ := blk (i := 2) q2.arg rfl
  obtain ⟨o2, _⟩ := blk (i := 2) q2.res rfl
  go_wp2_with fail
  refine (eqIntS_same n2 n2 c2 d2 A2 B2 z2 z2 w2 ((h2.bound.below q2.low).ints q2.low.size) ((k2.bound.below q2.low).ints q2.low.size) rfl L2.out L2.out (by omega)).mono ?_
  rintro e w3 ⟨rfl, hb⟩
  have q3 := q2.next hb
  clear hb g0 o0 g1 o1 g2 o2
  obtain ⟨g0, _⟩ := blk (i := 0) q3.arg rfl
  obtain ⟨o0, _⟩ := blk (i := 0) q3.res rfl
  obtain ⟨g1, _⟩ := blk (i := 1) q3.arg rfl
  obtain ⟨o1, _⟩ := blk (i := 1) q3.res rfl
  obtain ⟨g2, _⟩ := blk (i := 2) q3.arg rfl
  obtain ⟨o2, _⟩ := blk (i := 2) q3.res rfl
  go_wp2_with fail
  go_ret
  exact ⟨rfl, q3.low⟩
theorem markPublic_own (lo hi k : Nat) (A0 A1 A2 : Option Addr) (c0 c1 c2 : Nat) (n0 n1 n2 : Nat) (z0 z1 z2 : List Int) (w : World) (h : OwnPublic lo hi w (.slice A0 n0 c0) (.slice A1 n1 c1) (.slice A2 n2 c2) n0 n1 n2 z0 z1 z2) (hhi : hi ≤ w.heap.size) (hn : n0 + n1 + n2 + k ≤ 1000000000) :
    Calls Try.prog 36 #[.agg #[.slice A0 n0 c0, .slice A1 n1 c1, .slice A2 n2 c2], .int .i64 (k : Int)] w fun e w' => e = .returned (.int .i64 ((k + n0 + n1 + n2 : Nat) : Int)) ∧ OwnPublic lo hi w' (.slice A0 n0 c0) (.slice A1 n1 c1) (.slice A2 n2 c2) n0 n1 n2 (markInts (k) (n0)) (markInts (k + n0) (n1)) (markInts (k + n0 + n1) (n2)) ∧ Mid lo hi w w' ∧ Spare [.slice A0 n0 c0, .slice A1 n1 c1, .slice A2 n2 c2] w w' := by
  have b0 := heap_alloc_new w (.cells #[.slice A0 n0 c0, .slice A1 n1 c1, .slice A2 n2 c2] 37)
  have h0 := h.alloc (.cells #[.slice A0 n0 c0, .slice A1 n1 c1, .slice A2 n2 c2] 37)
  have m0 : Mid lo hi w (w.alloc (.cells #[.slice A0 n0 c0, .slice A1 n1 c1, .slice A2 n2 c2] 37)) := Mid.of_below ((Below.refl _ _).alloc (Nat.le_refl _) _) _ _
  have s0 : Spare [.slice A0 n0 c0, .slice A1 n1 c1, .slice A2 n2 c2] w (w.alloc (.cells #[.slice A0 n0 c0, .slice A1 n1 c1, .slice A2 n2 c2] 37)) := Spare.of_below ((Below.refl _ _).alloc (Nat.le_refl _) _)
  go_enter Try.func36, Try.ntmps36
  go_wp2_with fail
  generalize hw0 : w.alloc (.cells #[.slice A0 n0 c0, .slice A1 n1 c1, .slice A2 n2 c2] 37) = w0 at *
  clear hw0 h
  obtain ⟨g0, _⟩ := blk (i := 0) b0 rfl
  obtain ⟨g1, _⟩ := blk (i := 1) b0 rfl
  obtain ⟨g2, _⟩ := blk (i := 2) b0 rfl
  go_wp2_with fail
  refine (markIntS_ownA lo hi n0 (k) (.slice A0 n0 c0) z0 w0 h0.o0 (by omega)).mono ?_
  rintro e w1 ⟨rfl, p, hg⟩
  have b1 := heap_grown b0 hg (fun e => by have := p.top _ e; omega)
  have m1 := m0.trans (Mid.of_grown hg (fun g e => p.ltB e))
  have s1 := s0.grown m0.size hg (by simp)
  have h1 : OwnPublic lo hi w1 (.slice A0 n0 c0) (.slice A1 n1 c1) (.slice A2 n2 c2) n0 n1 n2 (markInts (k) (n0)) z1 z2 := ⟨p, h0.o1.keep hg h0.a01.symm, h0.o2.keep hg h0.a02.symm, h0.a01, h0.a02, h0.a12⟩
  clear g0 g1 g2 hg p h0 m0 b0 s0
  obtain ⟨g0, _⟩ := blk (i := 0) b1 rfl
  obtain ⟨g1, _⟩ := blk (i := 1) b1 rfl
  obtain ⟨g2, _⟩ := blk (i := 2) b1 rfl
  go_wp2_with fail
  refine (markIntS_ownA lo hi n1 (k + n0) (.slice A1 n1 c1) z1 w1 h1.o1 (by omega)).mono ?_
  rintro e w2 ⟨rfl, p, hg⟩
  have b2 := heap_grown b1 hg (fun e => by have := p.top _ e; omega)
  have m2 := m1.trans (Mid.of_grown hg (fun g e => p.ltB e))
  have s2 := s1.grown m1.size hg (by simp)
  have h2 : OwnPublic lo hi w2 (.slice A0 n0 c0) (.slice A1 n1 c1) (.slice A2 n2 c2) n0 n1 n2 (markInts (k) (n0)) (markInts (k + n0) (n1)) z2 := ⟨h1.o0.keep hg h1.a01, p, h1.o2.keep hg h1.a12.symm, h1.a01, h1.a02, h1.a12⟩
  clear g0 g1 g2 hg p h1 m1 b1 s1
  obtain ⟨g0, _⟩ := blk (i := 0) b2 rfl
  obtain ⟨g1, _⟩ := blk (i := 1) b2 rfl
  obtain ⟨g2, _⟩ := blk (i := 2) b2 rfl
  go_wp2_with fail
  refine (markIntS_ownA lo hi n2 (k + n0 + n1) (.slice A2 n2 c2) z2 w2 h2.o2 (by omega)).mono ?_
  rintro e w3 ⟨rfl, p, hg⟩
  have b3 := heap_grown b2 hg (fun e => by have := p.top _ e; omega)
  have m3 := m2.trans (Mid.of_grown hg (fun g e => p.ltB e))
  have s3 := s2.grown m2.size hg (by simp)
  have h3 : OwnPublic lo hi w3 (.slice A0 n0 c0) (.slice A1 n1 c1) (.slice A2 n2 c2) n0 n1 n2 (markInts (k) (n0)) (markInts (k + n0) (n1)) (markInts (k + n0 + n1) (n2)) := ⟨h2.o0.keep hg h2.a02, h2.o1.keep hg h2.a12, p, h2.a01, h2.a02, h2.a12⟩
  clear g0 g1 g2 hg p h2 m2 b2 s2
  obtain ⟨g0, _⟩ := blk (i := 0) b3 rfl
  obtain ⟨g1, _⟩ := blk (i := 1) b3 rfl
  obtain ⟨g2, _⟩ := blk (i := 2) b3 rfl
  go_wp2_with fail
  go_ret
  exact ⟨ret_int (by simp; try omega), h3, m3, s3⟩
theorem heldPublic_any (k : Nat) (A0 A1 A2 : Option Addr) (c0 c1 c2 : Nat) (n0 n1 n2 : Nat) (w : World) (h0 : Ints w A0 (markInts (k) (n0))) (h1 : Ints w A1 (markInts (k + n0) (n1))) (h2 : Ints w A2 (markInts (k + n0 + n1) (n2))) (hn : n0 + n1 + n2 + k ≤ 1000000000) :
    Calls Try.prog 37 #[.agg #[.slice A0 n0 c0, .slice A1 n1 c1, .slice A2 n2 c2], .int .i64 (k : Int)] w fun e w' => e = .returned (.int .i64 ((k + n0 + n1 + n2 : Nat) : Int)) ∧ Below w.heap.size w w' := by
  have b0 := heap_alloc_new w (.cells #[.slice A0 n0 c0, .slice A1 n1 c1, .slice A2 n2 c2] 37)
  have m0 : Below w.heap.size w (w.alloc (.cells #[.slice A0 n0 c0, .slice A1 n1 c1, .slice A2 n2 c2] 37)) := (Below.refl _ _).alloc (Nat.le_refl _) _
  go_enter Try.func37, Try.ntmps37
  go_wp2_with fail
  generalize hw0 : w.alloc (.cells #[.slice A0 n0 c0, .slice A1 n1 c1, .slice A2 n2 c2] 37) = w0 at *
  clear hw0
  obtain ⟨g0, _⟩ := blk (i := 0) b0 rfl
  obtain ⟨g1, _⟩ := blk (i := 1) b0 rfl
  obtain ⟨g2, _⟩ := blk (i := 2) b0 rfl
  go_wp2_with fail
  refine (heldIntS_any n0 (k) c0 A0 w0 ((h0.bound.below m0).ints m0.size) (by omega)).mono ?_
  rintro e w1 ⟨rfl, rfl⟩
  go_wp2_with fail
  refine (heldIntS_any n1 (k + n0) c1 A1 w0 ((h1.bound.below m0).ints m0.size) (by omega)).mono ?_
  rintro e w1 ⟨rfl, rfl⟩
  go_wp2_with fail
  refine (heldIntS_any n2 (k + n0 + n1) c2 A2 w0 ((h2.bound.below m0).ints m0.size) (by omega)).mono ?_
  rintro e w1 ⟨rfl, rfl⟩
  go_wp2_with fail
  go_ret
  exact ⟨ret_int (by simp; try omega), m0⟩
end Go.Proofs.Ytfpcjgolcbjnjaa
