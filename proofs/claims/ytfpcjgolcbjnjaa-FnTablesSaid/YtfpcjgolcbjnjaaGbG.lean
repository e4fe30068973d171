/- The program's garbling of one gate. No condition. -/
import Derived.Test.YtfpcjgolcbjnjaaProg
import Derived.Test.YtfpcjgolcbjnjaaGbF
import Derived.Test.YtfpcjgolcbjnjaaGbS
import Derived.BigRegion
import Derived.Deep.RegionLaw
namespace Go.Proofs.Ytfpcjgolcbjnjaa
open Go Go.RowKit
/-- A gate was garbled: its label for 0, and the garbling. -/
def PutG (B g : Nat) (pre : List Value) (T : TypeId) (d : Int) (vz : Value) (n : Nat) (zs ts : List Int) (x : Int) (w : World) (e : Ending) (w' : World) : Prop :=
  ∃ (vt : Value) (m : Nat), e = .returned (.int .i64 x) ∧ Gb B g w w' pre T d vz vt n m zs ts
set_option maxRecDepth 100000 in
set_option maxHeartbeats 2000000 in
theorem impl_garbleAnd {B g n0 c0 n1 c1 m k : Nat} {A0 A1 : Option Addr} {d : Int} {vz vt : Value} {zs ts : List Int} {w0 w : World} (h : Gb B g w0 w (GC A0 n0 c0 A1 n1 c1) 77 d vz vt k m zs ts) (hm : m ≤ 100000) (a a' b b' : Int) (n : Nat) (hn : n ≤ 6000) (hd : isLbl d) (ha : isLbl a) (hb : isLbl b) (ha' : a' = bits .xor .i64 a d) (hb' : b' = bits .xor .i64 b d) :
    Calls Try.prog 83 #[.pointer (some ⟨g, 0, none⟩), .agg #[.int .i64 a, .int .i64 a'], .agg #[.int .i64 b, .int .i64 b'], .int .i64 n] w (PutG B g (GC A0 n0 c0 A1 n1 c1) 77 d vz k zs (ts ++ [tgI d n a b, teI d n a b]) (evA n a b (tgI d n a b) (teI d n a b)) w) := by
  have k0 := Bx2.start w 104 #[.int .i64 a, .int .i64 a'] 104 #[.int .i64 b, .int .i64 b']
  have hG := tg_bits (a := a) (b := b) hn ha hd
  have hE := te_bits (b := b) hn ha hb hd
  have lG := tg_lbl (n := n) (b := b) (by omega) ha hd
  have lE := te_lbl (n := n) (by omega) ha hb hd
  rw [← ha'] at hG
  rw [← hb'] at hE
  have cL := impl_label n (tgI d n a b) (teI d n a b) a b hn lG lE ha hb
  generalize evA n a b (tgI d n a b) (teI d n a b) = EV at *
  generalize tgI d n a b = G at *
  generalize teI d n a b = E at *
  have h1 : Gb B g w ((w.alloc (.cells #[.int .i64 a, .int .i64 a'] 104)).alloc (.cells #[.int .i64 b, .int .i64 b'] 104)) (GC A0 n0 c0 A1 n1 c1) 77 d vz vt k m zs ts := (h.start.alloc _).alloc _
  have n0' : (0 : Int) ≤ n := by omega
  have n1' : (n : Int) ≤ 6000 := by omega
  have hgl := h.lt
  have htl := fun q e => (h.tab.lt q e).2
  have cE := impl_entries h1 a a' b b' n hn hd G E hG.symm hE.symm
  clear hG hE lG lE ha hb ha' hb' h
  go_enter Try.func83, Try.ntmps83
  go_upto_region 1 with (fail)
  generalize hw1 : (w.alloc (.cells #[.int .i64 a, .int .i64 a'] 104)).alloc (.cells #[.int .i64 b, .int .i64 b'] 104) = w1 at *
  clear hw1
  obtain ⟨a0, a1, _, _⟩ := box2 k0.arg
  obtain ⟨b0, b1, _, _⟩ := box2 k0.res
  go_wp2_with fail
  refine cE.mono ?_
  rintro e w2 ⟨rfl, hb2⟩
  have h2 := (h1.below hb2).alloc (.cells #[.int .i64 G, .int .i64 E] 120)
  have k2 := (k0.next hb2).next (below_alloc w2 (.cells #[.int .i64 G, .int .i64 E] 120))
  have bx := heap_alloc_new w2 (.cells #[.int .i64 G, .int .i64 E] 120)
  have k1s : w.heap.size ≤ w2.heap.size := (k0.next hb2).low.size
  clear cE hb2 h1 k0 a0 a1 b0 b1
  go_upto_region 2 with (fail)
  generalize hg : w2.heap.size = p at *
  generalize hw3 : w2.alloc (.cells #[.int .i64 G, .int .i64 E] 120) = w3 at *
  clear hw3
  have hpl : w.heap.size ≤ p := k1s
  clear hg
  obtain ⟨Az, cz, rfl⟩ := h2.zform
  obtain ⟨At, ct, rfl⟩ := h2.tform
  have hd3 := h2.drew
  obtain ⟨x0, x1, _, _⟩ := box2 bx
  have v4 := (h2.cell (i := 4) rfl).1
  have v4' := (h2.alloc (.cells #[.int .i64 G, .int .i64 E] 3)).cell (i := 4) rfl
  go_region_law (first
    | (refine app_step (e' := 3) elemInt (by rfl) _ _ (by rfl) B (.slice At m ct) m (intVals ts) (by rfl) (hd3.alloc (.cells #[.int .i64 G, .int .i64 E] 3)).tab w3.heap.size 2 2 _ (0, 0) (by rfl) (heap_alloc_new w3.drew _) (by rfl) (oneCell_i64 [_, _]) (by omega) (by unfold maxLen; omega) (by omega) (hd3.alloc (.cells #[.int .i64 G, .int .i64 E] 3)).size (w3.heap.size + 1) (by simp) ?_; intro g5 e5 w5 ho5 hg5 hat5 hl5; (have bx5 := heap_grown (hd3.alloc (.cells #[.int .i64 G, .int .i64 E] 3)).box hg5 h2.nt); (obtain ⟨a5, f5⟩ := blk (i := 4) bx5 rfl)))
  all_goals
    have h5 : Gb B g w (w5.setCell ⟨g, 4, none⟩ (.slice (some ⟨g5, 0, none⟩) (m + 2) e5)) (GC A0 n0 c0 A1 n1 c1) 77 d (.slice Az k cz) (.slice (some ⟨g5, 0, none⟩) (m + 2) e5) k (m + 2) zs (ts ++ [G, E]) := (hd3.alloc (.cells #[.int .i64 G, .int .i64 E] 3)).putT ho5 hg5 hat5 (by simp)
    have far : ∀ {q : Nat} {o : Obj}, (w3.drew.alloc (.cells #[.int .i64 G, .int .i64 E] 3)).heap[q]? = some o → w.heap.size ≤ q → (w5.setCell ⟨g, 4, none⟩ (.slice (some ⟨g5, 0, none⟩) (m + 2) e5)).heap[q]? = some o := fun hh hq => heap_far (heap_grown hh hg5 (fun e => by have := htl _ e; omega)) (by show _ ≠ g; omega) _
    have a5' := far (heap_alloc (w := w3.drew) k2.arg (.cells #[.int .i64 G, .int .i64 E] 3)) (Nat.le_refl _)
    have b5' := far (heap_alloc (w := w3.drew) k2.res (.cells #[.int .i64 G, .int .i64 E] 3)) (Nat.le_succ _)
    have x5' := far (heap_alloc (w := w3.drew) bx (.cells #[.int .i64 G, .int .i64 E] 3)) hpl
    obtain ⟨a0, _, _, _⟩ := box2 a5'
    obtain ⟨b0, _, _, _⟩ := box2 b5'
    obtain ⟨x0, x1, _, _⟩ := box2 x5'
    clear far a5' b5' x5' ho5 hg5 hat5 hl5 bx5 a5 f5 hd3 h2 v4 v4' k2
    generalize w5.setCell ⟨g, 4, none⟩ (.slice (some ⟨g5, 0, none⟩) (m + 2) e5) = w6 at *
    go_wp2_with fail
    refine (cL _).mono ?_
    rintro e w7 ⟨rfl, hb7⟩
    have h7 := h5.below hb7
    clear cL h5 hb7
    go_wp2_with fail
    go_ret
    exact ⟨_, _, rfl, h7⟩
set_option maxRecDepth 100000 in
set_option maxHeartbeats 4000000 in
/-- The operands of a gate are garbled. -/
theorem impl_garbleGate {B g n0 c0 n1 c1 m k : Nat} {A0 A1 : Option Addr} {d : Int} {vz vt : Value} {zs ts z0 : List Int} {w0 w : World} (h : Gb B g w0 w (GC A0 n0 c0 A1 n1 c1) 77 d vz vt k m zs ts) (hm : m ≤ 100000) (hk : k < n0) (hn : n0 ≤ 6000) (h0 : Ints w A0 z0) (l0 : z0.length = n0 * 3) (ok : gateOk (gk z0 k) (ga z0 k) (gb z0 k) k) (hl : ∀ j, j < k → isLbl (zs.getD j 0)) (hd : isLbl d) (s a : Int) :
    Calls Try.prog 49 #[.pointer (some ⟨g, 0, none⟩), .int .i64 k, .agg #[.int .i64 s, .int .i64 a]] w (PutG B g (GC A0 n0 c0 A1 n1 c1) 77 d vz k zs (ts ++ tbl d zs k (gk z0 k) (ga z0 k) (gb z0 k)) (zro s a d zs k (gk z0 k) (ga z0 k) (gb z0 k)) w) := by
  have k0 := Kept.start w 29 (.int .i64 s) (.int .i64 a)
  have h1 := h.start.alloc (.cells #[.int .i64 s, .int .i64 a] 29)
  obtain ⟨q, o, rfl, -, e0, e1, e2⟩ := gateCells (h0.bound.below k0.low) l0 hk
  generalize gk z0 k = kd at *
  generalize ga z0 k = ka at *
  generalize gb z0 k = kb at *
  have kk0 : (0 : Int) ≤ k := by omega
  have kk1 : (k : Int) < n0 := by omega
  obtain ⟨Az, cz, rfl⟩ := h.zform
  obtain ⟨At, ct, rfl⟩ := h.tform
  have lz := h.zlen
  have hgl := h.lt
  clear h0 l0 h
  generalize hX : zro s a d zs k kd ka kb = X
  generalize hY : ts ++ tbl d zs k kd ka kb = Y
  have HX := Lib.hid hX
  have HY := Lib.hid hY
  clear hX hY
  go_enter Try.func49, Try.ntmps49
  go_upto_region 1 with (fail)
  generalize hw1 : w.alloc (.cells #[.int .i64 s, .int .i64 a] 29) = w1 at *
  clear hw1
  have v0 := (h1.cell (i := 0) rfl).1
  have k2 := k0.alloc (.cells #[.int .i64 kd, .int .i64 ka, .int .i64 kb] 86)
  have h2 := h1.alloc (.cells #[.int .i64 kd, .int .i64 ka, .int .i64 kb] 86)
  have gx := heap_alloc_new w1 (.cells #[.int .i64 kd, .int .i64 ka, .int .i64 kb] 86)
  go_upto_region 2 with (fail)
  generalize hp : w1.heap.size = p at *
  generalize hw2 : w1.alloc (.cells #[.int .i64 kd, .int .i64 ka, .int .i64 kb] 86) = w2 at *
  clear hw2 hp h1 k0 v0 e0 e1 e2
  obtain ⟨t0, t1, _, _⟩ := box2 k2.arg
  obtain ⟨b0, _⟩ := blk (i := 0) gx rfl
  obtain ⟨b1, _⟩ := blk (i := 1) gx rfl
  obtain ⟨b2, _⟩ := blk (i := 2) gx rfl
  rcases ok with ⟨rfl, p1, rfl⟩ | ⟨rfl, p1, rfl⟩ | ⟨rfl | rfl, p1, p2⟩ | ⟨rfl, p1, rfl⟩
  · have EX : Hid (izI s a ka = X) := Lib.hid ((show zro s a d zs k 1 ka 0 = izI s a ka from by rw [zro, if_pos rfl]).symm.trans HX.out)
    have EY : Hid (ts = Y) := Lib.hid ((show ts ++ tbl d zs k 1 ka 0 = ts from by rw [tbl, if_neg (by omega), List.append_nil]).symm.trans HY.out)
    clear HX HY lz hl
    go_wp2_with fail
    refine (impl_InputZero s a ka _).mono ?_
    rw [EX.out]
    rintro e w6 ⟨rfl, hb6⟩
    have h6 := h2.below hb6
    clear hb6 h2 t0 t1 b0 b1 b2
    go_wp2_with fail
    go_ret
    rw [← EY.out]
    exact ⟨_, _, rfl, h6⟩
  · have EX : Hid (izI s a (1000 + k) = X) := Lib.hid ((show zro s a d zs k 2 ka 0 = izI s a (1000 + k) from by rw [zro, if_neg (by omega), if_pos rfl]).symm.trans HX.out)
    have EY : Hid (ts = Y) := Lib.hid ((show ts ++ tbl d zs k 2 ka 0 = ts from by rw [tbl, if_neg (by omega), List.append_nil]).symm.trans HY.out)
    clear HX HY lz hl
    go_wp2_with fail
    refine (impl_InputZero s a (1000 + k) _).mono ?_
    rw [EX.out]
    rintro e w6 ⟨rfl, hb6⟩
    have h6 := h2.below hb6
    clear hb6 h2 t0 t1 b0 b1 b2
    go_wp2_with fail
    go_ret
    rw [← EY.out]
    exact ⟨_, _, rfl, h6⟩
  · have hx := hl ka.toNat (by omega)
    have hy := hl kb.toNat (by omega)
    have EX : Hid (bits .xor .i64 (zs.getD ka.toNat 0) (zs.getD kb.toNat 0) = X) := Lib.hid ((show zro s a d zs k 3 ka kb = bits .xor .i64 (zs.getD ka.toNat 0) (zs.getD kb.toNat 0) from by rw [zro, if_neg (by omega), if_neg (by omega), if_pos rfl, lx_bits hx hy]).symm.trans HX.out)
    have EY : Hid (ts = Y) := Lib.hid ((show ts ++ tbl d zs k 3 ka kb = ts from by rw [tbl, if_neg (by omega), List.append_nil]).symm.trans HY.out)
    obtain ⟨bz, oz, rfl, -, q1⟩ := h2.zints.at_ (j := ka.toNat) (by rw [lz]; omega)
    obtain ⟨_, _, e9, -, q2⟩ := h2.zints.at_ (j := kb.toNat) (by rw [lz]; omega)
    injection e9 with e9; injection e9 with e11 e12; subst e11 e12
    clear HX HY lz hl hx hy
    generalize zs.getD ka.toNat 0 = x at *
    generalize zs.getD kb.toNat 0 = y at *
    have v3 := (h2.cell (i := 3) rfl).1
    go_wp2_with fail
    go_quiet (fail)
    have h6 := h2.drewN nq
    clear h2 t0 t1 b0 b1 b2 v3 q1 q2
    generalize w2.drewN nq = w6 at *
    go_wp2_with fail
    go_ret
    rw [← EY.out]
    exact ⟨_, _, ret_int EX.out, h6⟩
  · have hx := hl ka.toNat (by omega)
    have hy := hl kb.toNat (by omega)
    obtain ⟨x, ex⟩ : ∃ x, zs.getD ka.toNat 0 = x := ⟨_, rfl⟩
    obtain ⟨y, ey⟩ : ∃ y, zs.getD kb.toNat 0 = y := ⟨_, rfl⟩
    have cA := impl_labels h2.drew ka x p1 ex
    rw [ex] at hx
    rw [ey] at hy
    have EX : Hid (evA k x y (tgI d k x y) (teI d k x y) = X) := Lib.hid ((show zro s a d zs k 4 ka kb = evA k x y (tgI d k x y) (teI d k x y) from by rw [zro, if_neg (by omega), if_neg (by omega), if_neg (by omega), if_neg (by omega), ex, ey]).symm.trans HX.out)
    have EY : Hid (ts ++ [tgI d k x y, teI d k x y] = Y) := Lib.hid ((show ts ++ tbl d zs k 4 ka kb = ts ++ [tgI d k x y, teI d k x y] from by rw [tbl, if_pos rfl, ex, ey]).symm.trans HY.out)
    have hd2 := h2.drew
    have b1d : w2.drew.cell? ⟨p, 1, none⟩ = some (.int .i64 ka) := b1
    have b2d : w2.drew.cell? ⟨p, 2, none⟩ = some (.int .i64 kb) := b2
    have Hey := Lib.hid ey
    clear HX HY lz hl ex ey h2
    go_upto_region 11 with (fail)
    go_region_law (first
      | (go_simp; go_at_call 84; (with_reducible refine cA.mono ?_); rintro e w6 ⟨rfl, hb6⟩; (have h6 := hd2.below hb6); (have b26 := cell_on b2d hb6))
      | (go_simp; go_at_call 84; (with_reducible refine (impl_labels h6 kb y p2 Hey.out).mono ?_); rintro e w7 ⟨rfl, hb7⟩; (have h7 := h6.below hb7))
      | (go_simp; go_at_call 83; (with_reducible refine (impl_garbleAnd h7 hm x (bits .xor .i64 x d) y (bits .xor .i64 y d) k (by omega) hd hx hy rfl rfl).mono ?_); rintro e w8 ⟨vt8, m8, rfl, h8⟩))
    all_goals
      have h9 := h7.join h8
      clear h6 h7 h8 hd2 b0 b1 b2 b1d b2d b26 t0 t1 cA
      go_wp2_with fail
      go_ret
      rw [← EY.out]
      exact ⟨_, _, ret_int EX.out, h9⟩
  · have hx := hl ka.toNat (by omega)
    have EX : Hid (bits .xor .i64 (zs.getD ka.toNat 0) d = X) := Lib.hid ((show zro s a d zs k 5 ka 0 = bits .xor .i64 (zs.getD ka.toNat 0) d from by rw [zro, if_neg (by omega), if_neg (by omega), if_neg (by omega), if_pos rfl, lx_bits hx hd]).symm.trans HX.out)
    have EY : Hid (ts = Y) := Lib.hid ((show ts ++ tbl d zs k 5 ka 0 = ts from by rw [tbl, if_neg (by omega), List.append_nil]).symm.trans HY.out)
    have cA := impl_labels h2 ka (zs.getD ka.toNat 0) p1 rfl
    clear HX HY lz hl hx
    generalize zs.getD ka.toNat 0 = x at *
    have cN := impl_negated x (bits .xor .i64 x d)
    generalize bits .xor .i64 x d = z at *
    have hfl : ∀ W, (Instr.field 104 (.agg #[.int .i64 z, .int .i64 x]) 0).run Try.prog W = .ok (.int .i64 z) W := fun W => by kernel_rfl
    go_wp2_with fail
    refine cA.mono ?_
    rintro e w6 ⟨rfl, hb6⟩
    have h6 := h2.below hb6
    clear h2 hb6 t0 t1 b0 b1 b2 cA
    go_wp2_with fail
    refine (cN _).mono ?_
    rintro e w7 ⟨rfl, hb7⟩
    have h7 := h6.below hb7
    clear cN h6 hb7
    go_wp2_with fail
    go_ret
    rw [← EY.out]
    exact ⟨_, _, ret_int EX.out, h7⟩
end Go.Proofs.Ytfpcjgolcbjnjaa
