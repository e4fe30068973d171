/- Structs State: copying, comparing, marking. No condition. -/
import Derived.Test.YtlaidjibcpfnjaaProg
import Derived.Test.YtlaidjibcpfnjaaB1
namespace Go.Proofs.Ytlaidjibcpfnjaa
open Go Go.RowKit
/-- A struct State of the call's own: its slices lie in blocks from lo on and below hi, each in its own. -/
structure OwnState (lo hi : Nat) (w : World) (v0 v1 : Value) (n0 n1 : Nat) (z0 z1 : List Int) : Prop where
  o0 : OwnA 1 lo hi w v0 n0 z0
  o1 : OwnA 1 lo hi w v1 n1 z1
  a01 : apart v0 v1
section
variable {w w1 : World} {lo hi lo' hi' : Nat} {v0 v1 : Value} {n0 n1 : Nat} {z0 z1 : List Int}
theorem OwnState.mid (h : OwnState lo hi w v0 v1 n0 n1 z0 z1) (k : Mid lo' hi' w w1) (hd : hi ≤ lo' ∨ hi' ≤ lo) : OwnState lo hi w1 v0 v1 n0 n1 z0 z1 := ⟨h.o0.mid k hd, h.o1.mid k hd, h.a01⟩
theorem OwnState.below (h : OwnState lo hi w v0 v1 n0 n1 z0 z1) (hb : Below w.heap.size w w1) : OwnState lo hi w1 v0 v1 n0 n1 z0 z1 := ⟨h.o0.below hb, h.o1.below hb, h.a01⟩
theorem OwnState.alloc (h : OwnState lo hi w v0 v1 n0 n1 z0 z1) (o : Obj) : OwnState lo hi (w.alloc o) v0 v1 n0 n1 z0 z1 := h.below ((Below.refl _ _).alloc (Nat.le_refl _) _)
theorem OwnState.wide (h : OwnState lo hi w v0 v1 n0 n1 z0 z1) (h1 : lo' ≤ lo) (h2 : hi ≤ hi') : OwnState lo' hi' w v0 v1 n0 n1 z0 z1 := ⟨h.o0.wide h1 h2, h.o1.wide h1 h2, h.a01⟩
theorem OwnState.drew (h : OwnState lo hi w v0 v1 n0 n1 z0 z1) : OwnState lo hi w.drew v0 v1 n0 n1 z0 z1 := ⟨h.o0.drew, h.o1.drew, h.a01⟩
theorem OwnState.drewN (h : OwnState lo hi w v0 v1 n0 n1 z0 z1) (k : Nat) : OwnState lo hi (w.drewN k) v0 v1 n0 n1 z0 z1 := ⟨h.o0.drewN k, h.o1.drewN k, h.a01⟩
theorem OwnState.setFar {g i : Nat} (h : OwnState lo hi w v0 v1 n0 n1 z0 z1) (hg : g < lo) (u : Value) : OwnState lo hi (w.setCell ⟨g, i, none⟩ u) v0 v1 n0 n1 z0 z1 := ⟨h.o0.setFar hg u, h.o1.setFar hg u, h.a01⟩
theorem OwnState.setFar' {g i : Nat} (h : OwnState lo hi w v0 v1 n0 n1 z0 z1) (hg : hi ≤ g) (u : Value) : OwnState lo hi (w.setCell ⟨g, i, none⟩ u) v0 v1 n0 n1 z0 z1 := ⟨h.o0.setFar' hg u, h.o1.setFar' hg u, h.a01⟩
theorem OwnState.nil (lo hi : Nat) (w : World) : OwnState lo hi w (.slice none 0 0) (.slice none 0 0) 0 0 [] [] := ⟨OwnA.nil _ _ _ _, OwnA.nil _ _ _ _, apart.nil _ _ _⟩
end
/-- A struct State in new memory. -/
def Post_State (z0 : List Int) (z1 : List Int) (w : World) (e : Ending) (w' : World) : Prop :=
  ∃ (A0 A1 : Option Addr) (n0 n1 c0 c1 : Nat), e = .returned (.agg #[.slice A0 n0 c0, .slice A1 n1 c1]) ∧ OwnState w.heap.size w'.heap.size w' (.slice A0 n0 c0) (.slice A1 n1 c1) n0 n1 z0 z1 ∧ Below w.heap.size w w'
/-- A struct State that a call made, and the box that holds it: all new since W. -/
structure BxdState (W wx : World) (p lo hi : Nat) (A0 A1 : Option Addr) (n0 n1 c0 c1 : Nat) (z0 : List Int) (z1 : List Int) : Prop where
  own : OwnState lo hi wx (.slice A0 n0 c0) (.slice A1 n1 c1) n0 n1 z0 z1
  box : wx.heap[p]? = some (.cells #[.slice A0 n0 c0, .slice A1 n1 c1] 38 (0, 0))
  at_ : W.heap.size ≤ lo ∧ hi ≤ wx.heap.size ∧ W.heap.size ≤ p ∧ p < wx.heap.size ∧ (p < lo ∨ hi ≤ p)
  low : Below W.heap.size W wx
section
variable {W w w' : World} {A0 A1 : Option Addr} {n0 n1 c0 c1 p : Nat} {z0 z1 : List Int} {u : Array Value}
theorem BxdState.last (o : OwnState w.heap.size w'.heap.size w' (.slice A0 n0 c0) (.slice A1 n1 c1) n0 n1 z0 z1) (hl : Below W.heap.size W w') (hw : W.heap.size ≤ w.heap.size) :
    BxdState W (w'.alloc (.cells #[.slice A0 n0 c0, .slice A1 n1 c1] 38)) w'.heap.size w.heap.size w'.heap.size A0 A1 n0 n1 c0 c1 z0 z1 :=
  ⟨o.alloc _, heap_alloc_new w' _, ⟨hw, by simp, hl.size, by simp, .inr (Nat.le_refl _)⟩, hl.alloc hl.size _⟩
theorem BxdState.early (o : OwnState w.heap.size w'.heap.size w' (.slice A0 n0 c0) (.slice A1 n1 c1) n0 n1 z0 z1) (hl : Below W.heap.size W w') (hw : W.heap.size ≤ w.heap.size) (hb : w'.heap[p]? = some (.cells #[.slice none 0 0, .slice none 0 0] 38 (0, 0))) (hp : p < w.heap.size) (hW : W.heap.size ≤ p) :
    BxdState W ((w'.setCell ⟨p, 0, none⟩ (.slice A0 n0 c0)).setCell ⟨p, 1, none⟩ (.slice A1 n1 c1)) p w.heap.size w'.heap.size A0 A1 n0 n1 c0 c1 z0 z1 :=
  ⟨((o.setFar (g := p) (i := 0) hp _).setFar (g := p) (i := 1) hp _), (heap_set (i := 1) (heap_set (i := 0) hb (.slice A0 n0 c0)) (.slice A1 n1 c1)), ⟨hw, by simp, hW, by have := heap_lt hb; simpa using this, .inl hp⟩, ((hl.setCell (p := ⟨p, 0, none⟩) hW _).setCell (p := ⟨p, 1, none⟩) hW _)⟩
end
theorem toState_own (A0 A1 : Option Addr) (c0 c1 : Nat) (n0 n1 : Nat) (z0 z1 : List Int) (w : World) (h0 : Ints w A0 z0) (l0 : z0.length = n0) (m0 : n0 ≤ 2000000) (h1 : Ints w A1 z1) (l1 : z1.length = n1) (m1 : n1 ≤ 2000000) :
    Calls Try.prog 35 #[.agg #[.slice A0 n0 c0, .slice A1 n1 c1]] w fun e w' => ∃ B0 B1, e = .returned (.agg #[.slice B0 n0 n0, .slice B1 n1 n1]) ∧ OwnState w.heap.size w'.heap.size w' (.slice B0 n0 n0) (.slice B1 n1 n1) n0 n1 z0 z1 ∧ Below w.heap.size w w' := by
  have L0 := Lib.hid l0
  have L1 := Lib.hid l1
  clear l0 l1
  have k0 := Bx3.start w 52 #[.slice A0 n0 c0, .slice A1 n1 c1] 38 #[.slice none 0 0, .slice none 0 0] 38 #[.slice none 0 0, .slice none 0 0]
  go_enter Try.func35, Try.ntmps35
  go_wp2_with fail
  generalize hw0 : ((w.alloc (.cells #[.slice A0 n0 c0, .slice A1 n1 c1] 52)).alloc (.cells #[.slice none 0 0, .slice none 0 0] 38)).alloc (.cells #[.slice none 0 0, .slice none 0 0] 38) = w0 at *
  obtain ⟨g0, _⟩ := blk (i := 0) k0.two.arg rfl
  obtain ⟨g1, _⟩ := blk (i := 1) k0.two.arg rfl
  obtain ⟨o0, f0⟩ := blk (i := 0) k0.out rfl
  obtain ⟨o1, f1⟩ := blk (i := 1) k0.out rfl
  clear hw0
  go_wp2_with fail
  refine (toIntS_own A0 n0 c0 z0 w0 ((h0.bound.below k0.two.low).ints k0.two.low.size) L0.out m0).mono ?_
  rintro e u0 ⟨B0, rfl, p0, hb⟩
  have y0 := k0.next hb
  have s0 := k0.lt
  have p0' : OwnA 1 _ _ (u0.setCell ⟨w.heap.size + 1 + 1, 0, none⟩ (.slice B0 n0 n0)) _ _ _ := (p0.any.setFar (by omega) _)
  have k1 := (y0.setOut 0 (.slice B0 n0 n0)).is (rs' := #[.slice none 0 0, .slice none 0 0]) (ts' := #[.slice B0 n0 n0, .slice none 0 0]) rfl rfl
  have t0 := hb.size
  clear p0 g0 g1 o0 o1 f0 f1
  have p0 := p0'
  clear p0'
  obtain ⟨g0, _⟩ := blk (i := 0) y0.two.arg rfl
  obtain ⟨g1, _⟩ := blk (i := 1) y0.two.arg rfl
  obtain ⟨o0, f0⟩ := blk (i := 0) y0.out rfl
  obtain ⟨o1, f1⟩ := blk (i := 1) y0.out rfl
  have H0 := Lib.hid p0
  clear p0
  have Y1 := Lib.hid k1
  clear k1 k0 y0 hb
  go_wp2_with fail
  have p0 := H0.out
  clear H0
  have k1 := Y1.out
  clear Y1
  have i0 : u0.heap.size ≤ (u0.setCell ⟨w.heap.size + 1 + 1, 0, none⟩ (.slice B0 n0 n0)).heap.size := by simp
  have j0 : (u0.setCell ⟨w.heap.size + 1 + 1, 0, none⟩ (.slice B0 n0 n0)).heap.size ≤ u0.heap.size := by simp
  generalize (u0.setCell ⟨w.heap.size + 1 + 1, 0, none⟩ (.slice B0 n0 n0)) = w1 at *
  refine (toIntS_own A1 n1 c1 z1 w1 ((h1.bound.below k1.two.low).ints k1.two.low.size) L1.out m1).mono ?_
  rintro e u1 ⟨B1, rfl, p1, hb⟩
  have y1 := k1.next hb
  have s1 := k1.lt
  have p0' : OwnA 1 _ _ (((u1.setCell ⟨w.heap.size + 1 + 1, 1, none⟩ (.slice B1 n1 n1)).setCell ⟨w.heap.size + 1, 0, none⟩ (.slice B0 n0 n0)).setCell ⟨w.heap.size + 1, 1, none⟩ (.slice B1 n1 n1)) _ _ _ := ((((p0.below hb).setFar (by omega) _).setFar (by omega) _).setFar (by omega) _)
  have p1' : OwnA 1 _ _ (((u1.setCell ⟨w.heap.size + 1 + 1, 1, none⟩ (.slice B1 n1 n1)).setCell ⟨w.heap.size + 1, 0, none⟩ (.slice B0 n0 n0)).setCell ⟨w.heap.size + 1, 1, none⟩ (.slice B1 n1 n1)) _ _ _ := (((p1.any.setFar (by omega) _).setFar (by omega) _).setFar (by omega) _)
  have k2 := (((y1.setOut 1 (.slice B1 n1 n1)).setRes 0 (.slice B0 n0 n0)).setRes 1 (.slice B1 n1 n1)).is (rs' := #[.slice B0 n0 n0, .slice B1 n1 n1]) (ts' := #[.slice B0 n0 n0, .slice B1 n1 n1]) rfl rfl
  have t1 := hb.size
  clear p0 p1 g0 g1 o0 o1 f0 f1
  have p0 := p0'
  have p1 := p1'
  clear p0' p1'
  obtain ⟨g0, _⟩ := blk (i := 0) y1.two.arg rfl
  obtain ⟨g1, _⟩ := blk (i := 1) y1.two.arg rfl
  obtain ⟨o0, f0⟩ := blk (i := 0) y1.out rfl
  obtain ⟨o1, f1⟩ := blk (i := 1) y1.out rfl
  obtain ⟨_, e0⟩ := blk (i := 0) y1.two.res rfl
  obtain ⟨_, e1⟩ := blk (i := 1) y1.two.res rfl
  have H0 := Lib.hid p0
  have H1 := Lib.hid p1
  clear p0 p1
  have Y2 := Lib.hid k2
  clear k2 k1 y1 hb
  go_wp2_with fail
  have p0 := H0.out
  have p1 := H1.out
  clear H0 H1
  have k2 := Y2.out
  clear Y2
  have i1 : u1.heap.size ≤ (((u1.setCell ⟨w.heap.size + 1 + 1, 1, none⟩ (.slice B1 n1 n1)).setCell ⟨w.heap.size + 1, 0, none⟩ (.slice B0 n0 n0)).setCell ⟨w.heap.size + 1, 1, none⟩ (.slice B1 n1 n1)).heap.size := by simp
  have j1 : (((u1.setCell ⟨w.heap.size + 1 + 1, 1, none⟩ (.slice B1 n1 n1)).setCell ⟨w.heap.size + 1, 0, none⟩ (.slice B0 n0 n0)).setCell ⟨w.heap.size + 1, 1, none⟩ (.slice B1 n1 n1)).heap.size ≤ u1.heap.size := by simp
  generalize (((u1.setCell ⟨w.heap.size + 1 + 1, 1, none⟩ (.slice B1 n1 n1)).setCell ⟨w.heap.size + 1, 0, none⟩ (.slice B0 n0 n0)).setCell ⟨w.heap.size + 1, 1, none⟩ (.slice B1 n1 n1)) = w2 at *
  (try simp only [Exit.inBlock, Exit.then])
  refine bodyPost_ret (results_cell_row (P := Try.prog) rfl _ _ (w.heap.size + 1) 38 _ (0, 0) _ rfl k2.two.res Try.underlying38 rfl (by kernel_rfl)) rfl ?_
  exact ⟨_, _, rfl, ⟨p0.wide (by omega) (by omega), p1.wide (by omega) (by omega), p0.apart_of p1 (by omega)⟩, k2.two.low⟩
theorem eqState_same (A0 A1 : Option Addr) (c0 c1 : Nat) (B0 B1 : Option Addr) (d0 d1 : Nat) (n0 n1 : Nat) (z0 z1 : List Int) (w : World) (h0 : Ints w A0 z0) (k0 : Ints w B0 z0) (l0 : z0.length = n0) (m0 : n0 ≤ 2000000) (h1 : Ints w A1 z1) (k1 : Ints w B1 z1) (l1 : z1.length = n1) (m1 : n1 ≤ 2000000) :
    Calls Try.prog 30 #[.agg #[.slice A0 n0 c0, .slice A1 n1 c1], .agg #[.slice B0 n0 d0, .slice B1 n1 d1]] w fun e w' => e = .returned (.bool true) ∧ Below w.heap.size w w' := by
  have L0 := Lib.hid l0
  have L1 := Lib.hid l1
  clear l0 l1
  have q0 := Bx2.start w 38 #[.slice A0 n0 c0, .slice A1 n1 c1] 38 #[.slice B0 n0 d0, .slice B1 n1 d1]
  go_enter Try.func30, Try.ntmps30
  go_wp2_with fail
  generalize hw0 : (w.alloc (.cells #[.slice A0 n0 c0, .slice A1 n1 c1] 38)).alloc (.cells #[.slice B0 n0 d0, .slice B1 n1 d1] 38) = w0 at *
  clear hw0
  obtain ⟨g0, _⟩ := blk (i := 0) q0.arg rfl
  obtain ⟨o0, _⟩ := blk (i := 0) q0.res rfl
  obtain ⟨g1, _⟩ := blk (i := 1) q0.arg rfl
  obtain ⟨o1, _⟩ := blk (i := 1) q0.res rfl
  go_wp2_with fail
  refine (eqIntS_same n0 n0 c0 d0 A0 B0 z0 z0 w0 ((h0.bound.below q0.low).ints q0.low.size) ((k0.bound.below q0.low).ints q0.low.size) rfl L0.out L0.out (by omega)).mono ?_
  rintro e w1 ⟨rfl, hb⟩
  have q1 := q0.next hb
  clear hb g0 o0 g1 o1
  obtain ⟨g0, _⟩ := blk (i := 0) q1.arg rfl
  obtain ⟨o0, _⟩ := blk (i := 0) q1.res rfl
  obtain ⟨g1, _⟩ := blk (i := 1) q1.arg rfl
  obtain ⟨o1, _⟩ := blk (i := 1) q1.res rfl
  go_wp2_with fail
  refine (eqIntS_same n1 n1 c1 d1 A1 B1 z1 z1 w1 ((h1.bound.below q1.low).ints q1.low.size) ((k1.bound.below q1.low).ints q1.low.size) rfl L1.out L1.out (by omega)).mono ?_
  rintro e w2 ⟨rfl, hb⟩
  have q2 := q1.next hb
  clear hb g0 o0 g1 o1
  obtain ⟨g0, _⟩ := blk (i := 0) q2.arg rfl
  obtain ⟨o0, _⟩ := blk (i := 0) q2.res rfl
  obtain ⟨g1, _⟩ := blk (i := 1) q2.arg rfl
  obtain ⟨o1, _⟩ := blk (i := 1) q2.res rfl
  go_wp2_with fail
  go_ret
  exact ⟨rfl, q2.low⟩
theorem markState_own (lo hi k : Nat) (A0 A1 : Option Addr) (c0 c1 : Nat) (n0 n1 : Nat) (z0 z1 : List Int) (w : World) (h : OwnState lo hi w (.slice A0 n0 c0) (.slice A1 n1 c1) n0 n1 z0 z1) (hhi : hi ≤ w.heap.size) (hn : n0 + n1 + k ≤ 1000000000) :
    Calls Try.prog 31 #[.agg #[.slice A0 n0 c0, .slice A1 n1 c1], .int .i64 (k : Int)] w fun e w' => e = .returned (.int .i64 ((k + n0 + n1 : Nat) : Int)) ∧ OwnState lo hi w' (.slice A0 n0 c0) (.slice A1 n1 c1) n0 n1 (markInts (k) n0) (markInts (k + n0) n1) ∧ Mid lo hi w w' := by
  have b0 := heap_alloc_new w (.cells #[.slice A0 n0 c0, .slice A1 n1 c1] 38)
  have h0 := h.alloc (.cells #[.slice A0 n0 c0, .slice A1 n1 c1] 38)
  have m0 : Mid lo hi w (w.alloc (.cells #[.slice A0 n0 c0, .slice A1 n1 c1] 38)) := Mid.of_below ((Below.refl _ _).alloc (Nat.le_refl _) _) _ _
  go_enter Try.func31, Try.ntmps31
  go_wp2_with fail
  generalize hw0 : w.alloc (.cells #[.slice A0 n0 c0, .slice A1 n1 c1] 38) = w0 at *
  clear hw0 h
  obtain ⟨g0, _⟩ := blk (i := 0) b0 rfl
  obtain ⟨g1, _⟩ := blk (i := 1) b0 rfl
  go_wp2_with fail
  refine (markIntS_ownA lo hi n0 (k) (.slice A0 n0 c0) z0 w0 h0.o0 (by omega)).mono ?_
  rintro e w1 ⟨rfl, p, hg⟩
  have b1 := heap_grown b0 hg (fun e => by have := p.top _ e; omega)
  have m1 := m0.trans (Mid.of_grown hg (fun g e => p.ltB e))
  have h1 : OwnState lo hi w1 (.slice A0 n0 c0) (.slice A1 n1 c1) n0 n1 (markInts (k) n0) z1 := ⟨p, h0.o1.keep hg h0.a01.symm, h0.a01⟩
  clear g0 g1 hg p h0 m0 b0
  obtain ⟨g0, _⟩ := blk (i := 0) b1 rfl
  obtain ⟨g1, _⟩ := blk (i := 1) b1 rfl
  go_wp2_with fail
  refine (markIntS_ownA lo hi n1 (k + n0) (.slice A1 n1 c1) z1 w1 h1.o1 (by omega)).mono ?_
  rintro e w2 ⟨rfl, p, hg⟩
  have b2 := heap_grown b1 hg (fun e => by have := p.top _ e; omega)
  have m2 := m1.trans (Mid.of_grown hg (fun g e => p.ltB e))
  have h2 : OwnState lo hi w2 (.slice A0 n0 c0) (.slice A1 n1 c1) n0 n1 (markInts (k) n0) (markInts (k + n0) n1) := ⟨h1.o0.keep hg h1.a01, p, h1.a01⟩
  clear g0 g1 hg p h1 m1 b1
  obtain ⟨g0, _⟩ := blk (i := 0) b2 rfl
  obtain ⟨g1, _⟩ := blk (i := 1) b2 rfl
  go_wp2_with fail
  go_ret
  exact ⟨ret_int (by simp; try omega), h2, m2⟩
theorem heldState_any (k : Nat) (A0 A1 : Option Addr) (c0 c1 : Nat) (n0 n1 : Nat) (w : World) (h0 : Ints w A0 (markInts (k) n0)) (h1 : Ints w A1 (markInts (k + n0) n1)) (hn : n0 + n1 + k ≤ 1000000000) :
    Calls Try.prog 32 #[.agg #[.slice A0 n0 c0, .slice A1 n1 c1], .int .i64 (k : Int)] w fun e w' => e = .returned (.int .i64 ((k + n0 + n1 : Nat) : Int)) ∧ Below w.heap.size w w' := by
  have b0 := heap_alloc_new w (.cells #[.slice A0 n0 c0, .slice A1 n1 c1] 38)
  have m0 : Below w.heap.size w (w.alloc (.cells #[.slice A0 n0 c0, .slice A1 n1 c1] 38)) := (Below.refl _ _).alloc (Nat.le_refl _) _
  go_enter Try.func32, Try.ntmps32
  go_wp2_with fail
  generalize hw0 : w.alloc (.cells #[.slice A0 n0 c0, .slice A1 n1 c1] 38) = w0 at *
  clear hw0
  obtain ⟨g0, _⟩ := blk (i := 0) b0 rfl
  obtain ⟨g1, _⟩ := blk (i := 1) b0 rfl
  go_wp2_with fail
  refine (heldIntS_any n0 (k) c0 A0 w0 ((h0.bound.below m0).ints m0.size) (by omega)).mono ?_
  rintro e w1 ⟨rfl, rfl⟩
  go_wp2_with fail
  refine (heldIntS_any n1 (k + n0) c1 A1 w0 ((h1.bound.below m0).ints m0.size) (by omega)).mono ?_
  rintro e w1 ⟨rfl, rfl⟩
  go_wp2_with fail
  go_ret
  exact ⟨ret_int (by simp; try omega), m0⟩
theorem szState_any (left : Nat) (A0 A1 : Option Addr) (c0 c1 : Nat) (n0 n1 : Nat) (w : World) (hl : left ≤ 1048576) (l0 : n0 ≤ 9223372036854775807) (l1 : n1 ≤ 9223372036854775807) :
    Calls Try.prog 33 #[.agg #[.slice A0 n0 c0, .slice A1 n1 c1], .int .i64 (left : Int)] w (Sized left (n0 + n1) w) := by
  have b0 := heap_alloc_new w (.cells #[.slice A0 n0 c0, .slice A1 n1 c1] 52)
  have m0 : Below w.heap.size w (w.alloc (.cells #[.slice A0 n0 c0, .slice A1 n1 c1] 52)) := (Below.refl _ _).alloc (Nat.le_refl _) _
  go_enter Try.func33, Try.ntmps33
  go_wp2_with fail
  generalize hw0 : w.alloc (.cells #[.slice A0 n0 c0, .slice A1 n1 c1] 52) = w0 at *
  clear hw0
  obtain ⟨g0, _⟩ := blk (i := 0) b0 rfl
  obtain ⟨g1, _⟩ := blk (i := 1) b0 rfl
  go_wp2_with fail
  refine (szIntS_any (left) A0 n0 c0 w0 (by omega) l0).mono ?_
  rintro e w1 ⟨hr, rfl⟩
  by_cases hc0 : n0 ≤ left
  · obtain rfl := szRes_yes hr hc0
    go_wp2_with fail
    refine (szIntS_any (left - n0) A1 n1 c1 w0 (by omega) l1).mono ?_
    rintro e w1 ⟨hr, rfl⟩
    by_cases hc1 : n1 ≤ left - n0
    · obtain rfl := szRes_yes hr hc1
      go_wp2_with fail
      go_ret
      exact Sized.yes m0 (by omega)
    · obtain rfl := szRes_no hr hc1
      go_wp2_with fail
      go_ret
      exact Sized.no m0 (by omega)
  · obtain rfl := szRes_no hr hc0
    go_wp2_with fail
    go_ret
    exact Sized.no m0 (by omega)
end Go.Proofs.Ytlaidjibcpfnjaa
