/- Structs Garbled: copying, comparing, marking. No condition. -/
import Derived.Test.YtfpcjgolcbjnjaaProg
import Derived.Test.YtfpcjgolcbjnjaaB1
namespace Go.Proofs.Ytfpcjgolcbjnjaa
open Go Go.RowKit
/-- A struct Garbled of the call's own: its slices lie in blocks from lo on and below hi, each in its own. -/
structure OwnGarbled (lo hi : Nat) (w : World) (v1 v2 : Value) (n1 n2 : Nat) (z1 z2 : List Int) : Prop where
  o1 : OwnA 1 lo hi w v1 n1 z1
  o2 : OwnA 1 lo hi w v2 n2 z2
  a12 : apart v1 v2
section
variable {w w1 : World} {lo hi lo' hi' : Nat} {v1 v2 : Value} {n1 n2 : Nat} {z1 z2 : List Int}
theorem OwnGarbled.mid (h : OwnGarbled lo hi w v1 v2 n1 n2 z1 z2) (k : Mid lo' hi' w w1) (hd : hi ≤ lo' ∨ hi' ≤ lo) : OwnGarbled lo hi w1 v1 v2 n1 n2 z1 z2 := ⟨h.o1.mid k hd, h.o2.mid k hd, h.a12⟩
theorem OwnGarbled.below (h : OwnGarbled lo hi w v1 v2 n1 n2 z1 z2) (hb : Below w.heap.size w w1) : OwnGarbled lo hi w1 v1 v2 n1 n2 z1 z2 := ⟨h.o1.below hb, h.o2.below hb, h.a12⟩
theorem OwnGarbled.alloc (h : OwnGarbled lo hi w v1 v2 n1 n2 z1 z2) (o : Obj) : OwnGarbled lo hi (w.alloc o) v1 v2 n1 n2 z1 z2 := h.below ((Below.refl _ _).alloc (Nat.le_refl _) _)
theorem OwnGarbled.wide (h : OwnGarbled lo hi w v1 v2 n1 n2 z1 z2) (h1 : lo' ≤ lo) (h2 : hi ≤ hi') : OwnGarbled lo' hi' w v1 v2 n1 n2 z1 z2 := ⟨h.o1.wide h1 h2, h.o2.wide h1 h2, h.a12⟩
theorem OwnGarbled.drew (h : OwnGarbled lo hi w v1 v2 n1 n2 z1 z2) : OwnGarbled lo hi w.drew v1 v2 n1 n2 z1 z2 := ⟨h.o1.drew, h.o2.drew, h.a12⟩
theorem OwnGarbled.drewN (h : OwnGarbled lo hi w v1 v2 n1 n2 z1 z2) (k : Nat) : OwnGarbled lo hi (w.drewN k) v1 v2 n1 n2 z1 z2 := ⟨h.o1.drewN k, h.o2.drewN k, h.a12⟩
theorem OwnGarbled.setFar {g i : Nat} (h : OwnGarbled lo hi w v1 v2 n1 n2 z1 z2) (hg : g < lo) (u : Value) : OwnGarbled lo hi (w.setCell ⟨g, i, none⟩ u) v1 v2 n1 n2 z1 z2 := ⟨h.o1.setFar hg u, h.o2.setFar hg u, h.a12⟩
theorem OwnGarbled.setFar' {g i : Nat} (h : OwnGarbled lo hi w v1 v2 n1 n2 z1 z2) (hg : hi ≤ g) (u : Value) : OwnGarbled lo hi (w.setCell ⟨g, i, none⟩ u) v1 v2 n1 n2 z1 z2 := ⟨h.o1.setFar' hg u, h.o2.setFar' hg u, h.a12⟩
theorem OwnGarbled.nil (lo hi : Nat) (w : World) : OwnGarbled lo hi w (.slice none 0 0) (.slice none 0 0) 0 0 [] [] := ⟨OwnA.nil _ _ _ _, OwnA.nil _ _ _ _, apart.nil _ _ _⟩
end
/-- A struct Garbled in new memory. -/
def Post_Garbled (x0 : Int) (z1 : List Int) (z2 : List Int) (w : World) (e : Ending) (w' : World) : Prop :=
  ∃ (A1 A2 : Option Addr) (n1 n2 c1 c2 : Nat), e = .returned (.agg #[.int .i64 x0, .slice A1 n1 c1, .slice A2 n2 c2]) ∧ OwnGarbled w.heap.size w'.heap.size w' (.slice A1 n1 c1) (.slice A2 n2 c2) n1 n2 z1 z2 ∧ Below w.heap.size w w'
/-- A struct Garbled that a call made, and the box that holds it: all new since W. -/
structure BxdGarbled (W wx : World) (p lo hi : Nat) (A1 A2 : Option Addr) (n1 n2 c1 c2 : Nat) (x0 : Int) (z1 : List Int) (z2 : List Int) : Prop where
  own : OwnGarbled lo hi wx (.slice A1 n1 c1) (.slice A2 n2 c2) n1 n2 z1 z2
  box : wx.heap[p]? = some (.cells #[.int .i64 x0, .slice A1 n1 c1, .slice A2 n2 c2] 33 (0, 0))
  at_ : W.heap.size ≤ lo ∧ hi ≤ wx.heap.size ∧ W.heap.size ≤ p ∧ p < wx.heap.size ∧ (p < lo ∨ hi ≤ p)
  low : Below W.heap.size W wx
section
variable {W w w' : World} {A1 A2 : Option Addr} {n1 n2 c1 c2 p : Nat} {z1 z2 : List Int} {x0 : Int} {u : Array Value}
theorem BxdGarbled.last (o : OwnGarbled w.heap.size w'.heap.size w' (.slice A1 n1 c1) (.slice A2 n2 c2) n1 n2 z1 z2) (hl : Below W.heap.size W w') (hw : W.heap.size ≤ w.heap.size) :
    BxdGarbled W (w'.alloc (.cells #[.int .i64 x0, .slice A1 n1 c1, .slice A2 n2 c2] 33)) w'.heap.size w.heap.size w'.heap.size A1 A2 n1 n2 c1 c2 x0 z1 z2 :=
  ⟨o.alloc _, heap_alloc_new w' _, ⟨hw, by simp, hl.size, by simp, .inr (Nat.le_refl _)⟩, hl.alloc hl.size _⟩
theorem BxdGarbled.early (o : OwnGarbled w.heap.size w'.heap.size w' (.slice A1 n1 c1) (.slice A2 n2 c2) n1 n2 z1 z2) (hl : Below W.heap.size W w') (hw : W.heap.size ≤ w.heap.size) (hb : w'.heap[p]? = some (.cells #[.int .i64 0, .slice none 0 0, .slice none 0 0] 33 (0, 0))) (hp : p < w.heap.size) (hW : W.heap.size ≤ p) :
    BxdGarbled W (((w'.setCell ⟨p, 0, none⟩ (.int .i64 x0)).setCell ⟨p, 1, none⟩ (.slice A1 n1 c1)).setCell ⟨p, 2, none⟩ (.slice A2 n2 c2)) p w.heap.size w'.heap.size A1 A2 n1 n2 c1 c2 x0 z1 z2 :=
  ⟨(((o.setFar (g := p) (i := 0) hp _).setFar (g := p) (i := 1) hp _).setFar (g := p) (i := 2) hp _), (heap_set (i := 2) (heap_set (i := 1) (heap_set (i := 0) hb (.int .i64 x0)) (.slice A1 n1 c1)) (.slice A2 n2 c2)), ⟨hw, by simp, hW, by have := heap_lt hb; simpa using this, .inl hp⟩, (((hl.setCell (p := ⟨p, 0, none⟩) hW _).setCell (p := ⟨p, 1, none⟩) hW _).setCell (p := ⟨p, 2, none⟩) hW _)⟩
end
theorem toGarbled_own (A1 A2 : Option Addr) (c1 c2 : Nat) (n1 n2 : Nat) (z1 z2 : List Int) (x0 : Int) (w : World) (h1 : Ints w A1 z1) (l1 : z1.length = n1) (m1 : n1 ≤ 2000000) (h2 : Ints w A2 z2) (l2 : z2.length = n2) (m2 : n2 ≤ 2000000) :
    Calls Try.prog 32 #[.agg #[.int .i64 x0, .slice A1 n1 c1, .slice A2 n2 c2]] w fun e w' => ∃ B1 B2, e = .returned (.agg #[.int .i64 x0, .slice B1 n1 n1, .slice B2 n2 n2]) ∧ OwnGarbled w.heap.size w'.heap.size w' (.slice B1 n1 n1) (.slice B2 n2 n2) n1 n2 z1 z2 ∧ Below w.heap.size w w' := by
  have L1 := Lib.hid l1
  have L2 := Lib.hid l2
  clear l1 l2
  have k0 := Bx3.start w 59 #[.int .i64 x0, .slice A1 n1 c1, .slice A2 n2 c2] 33 #[.int .i64 0, .slice none 0 0, .slice none 0 0] 33 #[.int .i64 x0, .slice none 0 0, .slice none 0 0]
  go_enter Try.func32, Try.ntmps32
  go_wp2_with fail
  generalize hw0 : ((w.alloc (.cells #[.int .i64 x0, .slice A1 n1 c1, .slice A2 n2 c2] 59)).alloc (.cells #[.int .i64 0, .slice none 0 0, .slice none 0 0] 33)).alloc (.cells #[.int .i64 x0, .slice none 0 0, .slice none 0 0] 33) = w0 at *
  obtain ⟨g0, _⟩ := blk (i := 0) k0.two.arg rfl
  obtain ⟨g1, _⟩ := blk (i := 1) k0.two.arg rfl
  obtain ⟨g2, _⟩ := blk (i := 2) k0.two.arg rfl
  obtain ⟨o0, f0⟩ := blk (i := 0) k0.out rfl
  obtain ⟨o1, f1⟩ := blk (i := 1) k0.out rfl
  obtain ⟨o2, f2⟩ := blk (i := 2) k0.out rfl
  clear hw0
  go_wp2_with fail
  refine (toIntS_own A1 n1 c1 z1 w0 ((h1.bound.below k0.two.low).ints k0.two.low.size) L1.out m1).mono ?_
  rintro e u0 ⟨B1, rfl, p1, hb⟩
  have y0 := k0.next hb
  have s0 := k0.lt
  have p1' : OwnA 1 _ _ (u0.setCell ⟨w.heap.size + 1 + 1, 1, none⟩ (.slice B1 n1 n1)) _ _ _ := (p1.any.setFar (by omega) _)
  have k1 := (y0.setOut 1 (.slice B1 n1 n1)).is (rs' := #[.int .i64 0, .slice none 0 0, .slice none 0 0]) (ts' := #[.int .i64 x0, .slice B1 n1 n1, .slice none 0 0]) rfl rfl
  have t0 := hb.size
  clear p1 g0 g1 g2 o0 o1 o2 f0 f1 f2
  have p1 := p1'
  clear p1'
  obtain ⟨g0, _⟩ := blk (i := 0) y0.two.arg rfl
  obtain ⟨g1, _⟩ := blk (i := 1) y0.two.arg rfl
  obtain ⟨g2, _⟩ := blk (i := 2) y0.two.arg rfl
  obtain ⟨o0, f0⟩ := blk (i := 0) y0.out rfl
  obtain ⟨o1, f1⟩ := blk (i := 1) y0.out rfl
  obtain ⟨o2, f2⟩ := blk (i := 2) y0.out rfl
  have H1 := Lib.hid p1
  clear p1
  have Y1 := Lib.hid k1
  clear k1 k0 y0 hb
  go_wp2_with fail
  have p1 := H1.out
  clear H1
  have k1 := Y1.out
  clear Y1
  have i0 : u0.heap.size ≤ (u0.setCell ⟨w.heap.size + 1 + 1, 1, none⟩ (.slice B1 n1 n1)).heap.size := by simp
  have j0 : (u0.setCell ⟨w.heap.size + 1 + 1, 1, none⟩ (.slice B1 n1 n1)).heap.size ≤ u0.heap.size := by simp
  generalize (u0.setCell ⟨w.heap.size + 1 + 1, 1, none⟩ (.slice B1 n1 n1)) = w1 at *
  refine (toIntS_own A2 n2 c2 z2 w1 ((h2.bound.below k1.two.low).ints k1.two.low.size) L2.out m2).mono ?_
  rintro e u1 ⟨B2, rfl, p2, hb⟩
  have y1 := k1.next hb
  have s1 := k1.lt
  have p1' : OwnA 1 _ _ ((((u1.setCell ⟨w.heap.size + 1 + 1, 2, none⟩ (.slice B2 n2 n2)).setCell ⟨w.heap.size + 1, 0, none⟩ (.int .i64 x0)).setCell ⟨w.heap.size + 1, 1, none⟩ (.slice B1 n1 n1)).setCell ⟨w.heap.size + 1, 2, none⟩ (.slice B2 n2 n2)) _ _ _ := (((((p1.below hb).setFar (by omega) _).setFar (by omega) _).setFar (by omega) _).setFar (by omega) _)
  have p2' : OwnA 1 _ _ ((((u1.setCell ⟨w.heap.size + 1 + 1, 2, none⟩ (.slice B2 n2 n2)).setCell ⟨w.heap.size + 1, 0, none⟩ (.int .i64 x0)).setCell ⟨w.heap.size + 1, 1, none⟩ (.slice B1 n1 n1)).setCell ⟨w.heap.size + 1, 2, none⟩ (.slice B2 n2 n2)) _ _ _ := ((((p2.any.setFar (by omega) _).setFar (by omega) _).setFar (by omega) _).setFar (by omega) _)
  have k2 := ((((y1.setOut 2 (.slice B2 n2 n2)).setRes 0 (.int .i64 x0)).setRes 1 (.slice B1 n1 n1)).setRes 2 (.slice B2 n2 n2)).is (rs' := #[.int .i64 x0, .slice B1 n1 n1, .slice B2 n2 n2]) (ts' := #[.int .i64 x0, .slice B1 n1 n1, .slice B2 n2 n2]) rfl rfl
  have t1 := hb.size
  clear p1 p2 g0 g1 g2 o0 o1 o2 f0 f1 f2
  have p1 := p1'
  have p2 := p2'
  clear p1' p2'
  obtain ⟨g0, _⟩ := blk (i := 0) y1.two.arg rfl
  obtain ⟨g1, _⟩ := blk (i := 1) y1.two.arg rfl
  obtain ⟨g2, _⟩ := blk (i := 2) y1.two.arg rfl
  obtain ⟨o0, f0⟩ := blk (i := 0) y1.out rfl
  obtain ⟨o1, f1⟩ := blk (i := 1) y1.out rfl
  obtain ⟨o2, f2⟩ := blk (i := 2) y1.out rfl
  obtain ⟨_, e0⟩ := blk (i := 0) y1.two.res rfl
  obtain ⟨_, e1⟩ := blk (i := 1) y1.two.res rfl
  obtain ⟨_, e2⟩ := blk (i := 2) y1.two.res rfl
  have H1 := Lib.hid p1
  have H2 := Lib.hid p2
  clear p1 p2
  have Y2 := Lib.hid k2
  clear k2 k1 y1 hb
  go_wp2_with fail
  have p1 := H1.out
  have p2 := H2.out
  clear H1 H2
  have k2 := Y2.out
  clear Y2
  have i1 : u1.heap.size ≤ ((((u1.setCell ⟨w.heap.size + 1 + 1, 2, none⟩ (.slice B2 n2 n2)).setCell ⟨w.heap.size + 1, 0, none⟩ (.int .i64 x0)).setCell ⟨w.heap.size + 1, 1, none⟩ (.slice B1 n1 n1)).setCell ⟨w.heap.size + 1, 2, none⟩ (.slice B2 n2 n2)).heap.size := by simp
  have j1 : ((((u1.setCell ⟨w.heap.size + 1 + 1, 2, none⟩ (.slice B2 n2 n2)).setCell ⟨w.heap.size + 1, 0, none⟩ (.int .i64 x0)).setCell ⟨w.heap.size + 1, 1, none⟩ (.slice B1 n1 n1)).setCell ⟨w.heap.size + 1, 2, none⟩ (.slice B2 n2 n2)).heap.size ≤ u1.heap.size := by simp
  generalize ((((u1.setCell ⟨w.heap.size + 1 + 1, 2, none⟩ (.slice B2 n2 n2)).setCell ⟨w.heap.size + 1, 0, none⟩ (.int .i64 x0)).setCell ⟨w.heap.size + 1, 1, none⟩ (.slice B1 n1 n1)).setCell ⟨w.heap.size + 1, 2, none⟩ (.slice B2 n2 n2)) = w2 at *
  (try simp only [Exit.inBlock, Exit.then])
  refine bodyPost_ret (results_cell_row (P := Try.prog) rfl _ _ (w.heap.size + 1) 33 _ (0, 0) _ rfl k2.two.res Try.underlying33 rfl (by kernel_rfl)) rfl ?_
  exact ⟨_, _, rfl, ⟨p1.wide (by omega) (by omega), p2.wide (by omega) (by omega), p1.apart_of p2 (by omega)⟩, k2.two.low⟩
theorem eqGarbled_same (A1 A2 : Option Addr) (c1 c2 : Nat) (B1 B2 : Option Addr) (d1 d2 : Nat) (n1 n2 : Nat) (z1 z2 : List Int) (x0 : Int) (w : World) (h1 : Ints w A1 z1) (k1 : Ints w B1 z1) (l1 : z1.length = n1) (m1 : n1 ≤ 2000000) (h2 : Ints w A2 z2) (k2 : Ints w B2 z2) (l2 : z2.length = n2) (m2 : n2 ≤ 2000000) :
    Calls Try.prog 25 #[.agg #[.int .i64 x0, .slice A1 n1 c1, .slice A2 n2 c2], .agg #[.int .i64 x0, .slice B1 n1 d1, .slice B2 n2 d2]] w fun e w' => e = .returned (.bool true) ∧ Below w.heap.size w w' := by
  have L1 := Lib.hid l1
  have L2 := Lib.hid l2
  clear l1 l2
  have q0 := Bx2.start w 33 #[.int .i64 x0, .slice A1 n1 c1, .slice A2 n2 c2] 33 #[.int .i64 x0, .slice B1 n1 d1, .slice B2 n2 d2]
  go_enter Try.func25, Try.ntmps25
  go_wp2_with fail
  generalize hw0 : (w.alloc (.cells #[.int .i64 x0, .slice A1 n1 c1, .slice A2 n2 c2] 33)).alloc (.cells #[.int .i64 x0, .slice B1 n1 d1, .slice B2 n2 d2] 33) = w0 at *
  clear hw0
  obtain ⟨g0, _⟩ := blk (i := 0) q0.arg rfl
  obtain ⟨o0, _⟩ := blk (i := 0) q0.res rfl
  obtain ⟨g1, _⟩ := blk (i := 1) q0.arg rfl
  obtain ⟨o1, _⟩ := blk (i := 1) q0.res rfl
  obtain ⟨g2, _⟩ := blk (i := 2) q0.arg rfl
  obtain ⟨o2, _⟩ := blk (i := 2) q0.res rfl
  go_wp2_with fail
  refine (eqIntS_same n1 n1 c1 d1 A1 B1 z1 z1 w0 ((h1.bound.below q0.low).ints q0.low.size) ((k1.bound.below q0.low).ints q0.low.size) rfl L1.out L1.out (by omega)).mono ?_
  rintro e w1 ⟨rfl, hb⟩
  have q1 := q0.next hb
  clear hb g0 o0 g1 o1 g2 o2
  obtain ⟨g0, _⟩ := blk (i := 0) q1.arg rfl
  obtain ⟨o0, _⟩ := blk (i := 0) q1.res rfl
  obtain ⟨g1, _⟩ := blk (i := 1) q1.arg rfl
  obtain ⟨o1, _⟩ := blk (i := 1) q1.res rfl
  obtain ⟨g2, _⟩ := blk (i := 2) q1.arg rfl
  obtain ⟨o2, _⟩ := blk (i := 2) q1.res rfl
  go_wp2_with fail
  refine (eqIntS_same n2 n2 c2 d2 A2 B2 z2 z2 w1 ((h2.bound.below q1.low).ints q1.low.size) ((k2.bound.below q1.low).ints q1.low.size) rfl L2.out L2.out (by omega)).mono ?_
  rintro e w2 ⟨rfl, hb⟩
  have q2 := q1.next hb
  clear hb g0 o0 g1 o1 g2 o2
  obtain ⟨g0, _⟩ := blk (i := 0) q2.arg rfl
  obtain ⟨o0, _⟩ := blk (i := 0) q2.res rfl
  obtain ⟨g1, _⟩ := blk (i := 1) q2.arg rfl
  obtain ⟨o1, _⟩ := blk (i := 1) q2.res rfl
  obtain ⟨g2, _⟩ := blk (i := 2) q2.arg rfl
  obtain ⟨o2, _⟩ := blk (i := 2) q2.res rfl
  go_wp2_with fail
  go_ret
  exact ⟨rfl, q2.low⟩
theorem markGarbled_own (lo hi k : Nat) (A1 A2 : Option Addr) (c1 c2 : Nat) (n1 n2 : Nat) (z1 z2 : List Int) (x0 : Int) (w : World) (h : OwnGarbled lo hi w (.slice A1 n1 c1) (.slice A2 n2 c2) n1 n2 z1 z2) (hhi : hi ≤ w.heap.size) (hn : n1 + n2 + k ≤ 1000000000) :
    Calls Try.prog 28 #[.agg #[.int .i64 x0, .slice A1 n1 c1, .slice A2 n2 c2], .int .i64 (k : Int)] w fun e w' => e = .returned (.int .i64 ((k + n1 + n2 : Nat) : Int)) ∧ OwnGarbled lo hi w' (.slice A1 n1 c1) (.slice A2 n2 c2) n1 n2 (markInts (k) (n1)) (markInts (k + n1) (n2)) ∧ Mid lo hi w w' ∧ Spare [.slice A1 n1 c1, .slice A2 n2 c2] w w' := by
  have b0 := heap_alloc_new w (.cells #[.int .i64 x0, .slice A1 n1 c1, .slice A2 n2 c2] 33)
  have h0 := h.alloc (.cells #[.int .i64 x0, .slice A1 n1 c1, .slice A2 n2 c2] 33)
  have m0 : Mid lo hi w (w.alloc (.cells #[.int .i64 x0, .slice A1 n1 c1, .slice A2 n2 c2] 33)) := Mid.of_below ((Below.refl _ _).alloc (Nat.le_refl _) _) _ _
  have s0 : Spare [.slice A1 n1 c1, .slice A2 n2 c2] w (w.alloc (.cells #[.int .i64 x0, .slice A1 n1 c1, .slice A2 n2 c2] 33)) := Spare.of_below ((Below.refl _ _).alloc (Nat.le_refl _) _)
  go_enter Try.func28, Try.ntmps28
  go_wp2_with fail
  generalize hw0 : w.alloc (.cells #[.int .i64 x0, .slice A1 n1 c1, .slice A2 n2 c2] 33) = w0 at *
  clear hw0 h
  obtain ⟨g0, _⟩ := blk (i := 0) b0 rfl
  obtain ⟨g1, _⟩ := blk (i := 1) b0 rfl
  obtain ⟨g2, _⟩ := blk (i := 2) b0 rfl
  go_wp2_with fail
  refine (markIntS_ownA lo hi n1 (k) (.slice A1 n1 c1) z1 w0 h0.o1 (by omega)).mono ?_
  rintro e w1 ⟨rfl, p, hg⟩
  have b1 := heap_grown b0 hg (fun e => by have := p.top _ e; omega)
  have m1 := m0.trans (Mid.of_grown hg (fun g e => p.ltB e))
  have s1 := s0.grown m0.size hg (by simp)
  have h1 : OwnGarbled lo hi w1 (.slice A1 n1 c1) (.slice A2 n2 c2) n1 n2 (markInts (k) (n1)) z2 := ⟨p, h0.o2.keep hg h0.a12.symm, h0.a12⟩
  clear g0 g1 g2 hg p h0 m0 b0 s0
  obtain ⟨g0, _⟩ := blk (i := 0) b1 rfl
  obtain ⟨g1, _⟩ := blk (i := 1) b1 rfl
  obtain ⟨g2, _⟩ := blk (i := 2) b1 rfl
  go_wp2_with fail
  refine (markIntS_ownA lo hi n2 (k + n1) (.slice A2 n2 c2) z2 w1 h1.o2 (by omega)).mono ?_
  rintro e w2 ⟨rfl, p, hg⟩
  have b2 := heap_grown b1 hg (fun e => by have := p.top _ e; omega)
  have m2 := m1.trans (Mid.of_grown hg (fun g e => p.ltB e))
  have s2 := s1.grown m1.size hg (by simp)
  have h2 : OwnGarbled lo hi w2 (.slice A1 n1 c1) (.slice A2 n2 c2) n1 n2 (markInts (k) (n1)) (markInts (k + n1) (n2)) := ⟨h1.o1.keep hg h1.a12, p, h1.a12⟩
  clear g0 g1 g2 hg p h1 m1 b1 s1
  obtain ⟨g0, _⟩ := blk (i := 0) b2 rfl
  obtain ⟨g1, _⟩ := blk (i := 1) b2 rfl
  obtain ⟨g2, _⟩ := blk (i := 2) b2 rfl
  go_wp2_with fail
  go_ret
  exact ⟨ret_int (by simp; try omega), h2, m2, s2⟩
theorem heldGarbled_any (k : Nat) (A1 A2 : Option Addr) (c1 c2 : Nat) (n1 n2 : Nat) (x0 : Int) (w : World) (h1 : Ints w A1 (markInts (k) (n1))) (h2 : Ints w A2 (markInts (k + n1) (n2))) (hn : n1 + n2 + k ≤ 1000000000) :
    Calls Try.prog 29 #[.agg #[.int .i64 x0, .slice A1 n1 c1, .slice A2 n2 c2], .int .i64 (k : Int)] w fun e w' => e = .returned (.int .i64 ((k + n1 + n2 : Nat) : Int)) ∧ Below w.heap.size w w' := by
  have b0 := heap_alloc_new w (.cells #[.int .i64 x0, .slice A1 n1 c1, .slice A2 n2 c2] 33)
  have m0 : Below w.heap.size w (w.alloc (.cells #[.int .i64 x0, .slice A1 n1 c1, .slice A2 n2 c2] 33)) := (Below.refl _ _).alloc (Nat.le_refl _) _
  go_enter Try.func29, Try.ntmps29
  go_wp2_with fail
  generalize hw0 : w.alloc (.cells #[.int .i64 x0, .slice A1 n1 c1, .slice A2 n2 c2] 33) = w0 at *
  clear hw0
  obtain ⟨g0, _⟩ := blk (i := 0) b0 rfl
  obtain ⟨g1, _⟩ := blk (i := 1) b0 rfl
  obtain ⟨g2, _⟩ := blk (i := 2) b0 rfl
  go_wp2_with fail
  refine (heldIntS_any n1 (k) c1 A1 w0 ((h1.bound.below m0).ints m0.size) (by omega)).mono ?_
  rintro e w1 ⟨rfl, rfl⟩
  go_wp2_with fail
  refine (heldIntS_any n2 (k + n1) c2 A2 w0 ((h2.bound.below m0).ints m0.size) (by omega)).mono ?_
  rintro e w1 ⟨rfl, rfl⟩
  go_wp2_with fail
  go_ret
  exact ⟨ret_int (by simp; try omega), m0⟩
theorem szGarbled_any (left : Nat) (A1 A2 : Option Addr) (c1 c2 : Nat) (n1 n2 : Nat) (x0 : Int) (w : World) (hl : left ≤ 1048576) (l1 : n1 ≤ 9223372036854775807) (l2 : n2 ≤ 9223372036854775807) :
    Calls Try.prog 30 #[.agg #[.int .i64 x0, .slice A1 n1 c1, .slice A2 n2 c2], .int .i64 (left : Int)] w (Sized left (n1 + n2) w) := by
  have b0 := heap_alloc_new w (.cells #[.int .i64 x0, .slice A1 n1 c1, .slice A2 n2 c2] 59)
  have m0 : Below w.heap.size w (w.alloc (.cells #[.int .i64 x0, .slice A1 n1 c1, .slice A2 n2 c2] 59)) := (Below.refl _ _).alloc (Nat.le_refl _) _
  go_enter Try.func30, Try.ntmps30
  go_wp2_with fail
  generalize hw0 : w.alloc (.cells #[.int .i64 x0, .slice A1 n1 c1, .slice A2 n2 c2] 59) = w0 at *
  clear hw0
  obtain ⟨g0, _⟩ := blk (i := 0) b0 rfl
  obtain ⟨g1, _⟩ := blk (i := 1) b0 rfl
  obtain ⟨g2, _⟩ := blk (i := 2) b0 rfl
  go_wp2_with fail
  refine (szIntS_any (left) A1 n1 c1 w0 (by omega) l1).mono ?_
  rintro e w1 ⟨hr, rfl⟩
  by_cases hc1 : n1 ≤ left
  · obtain rfl := szRes_yes hr hc1
    go_wp2_with fail
    refine (szIntS_any (left - n1) A2 n2 c2 w0 (by omega) l2).mono ?_
    rintro e w1 ⟨hr, rfl⟩
    by_cases hc2 : n2 ≤ left - n1
    · obtain rfl := szRes_yes hr hc2
      go_wp2_with fail
      go_ret
      exact Sized.yes m0 (by omega)
    · obtain rfl := szRes_no hr hc2
      go_wp2_with fail
      go_ret
      exact Sized.no m0 (by omega)
  · obtain rfl := szRes_no hr hc1
    go_wp2_with fail
    go_ret
    exact Sized.no m0 (by omega)
end Go.Proofs.Ytfpcjgolcbjnjaa
