/- What the laws about polynomial shares share. -/
import Derived.Test.YtcjgoonkdjaccaaProg
import Derived.Test.YtcjgoonkdjaccaaPolyZ
import Derived.Test.YtcjgoonkdjaccaaPolyX
import Derived.Test.YtcjgoonkdjaccaaFieldW
import Derived.Test.YtcjgoonkdjaccaaTapeD
import Derived.Test.YtcjgoonkdjaccaaShareU
import Derived.Test.YtcjgoonkdjaccaaApp
namespace Go.Proofs.Ytcjgoonkdjaccaa
open Go Go.RowKit
theorem Ints.skip {w : World} {b o : Nat} {zs : List Int} (h : Ints w (some ⟨b, o, none⟩) zs) (f : Nat) : Ints w (some ⟨b, o + f, none⟩) (zs.drop f) := fun h0 => by
  rw [List.length_drop] at h0
  obtain ⟨b', o', e, hl, hc⟩ := h (by omega)
  injection e with e
  injection e with e1 e2
  subst e1 e2
  refine ⟨b, o + f, rfl, hl, fun j hj => ?_⟩
  rw [List.length_drop] at hj
  have := hc (f + j) (by omega)
  rw [Nat.add_assoc, this]
  simp [List.getD_eq_getElem?_getD]
theorem drop_take_at {l : List Int} {f m i : Nat} (h : i < m) : ((l.drop f).take m).getD i 0 = l.getD (f + i) 0 := by
  rw [take_at h]
  simp [List.getD_eq_getElem?_getD]
theorem cell_old {w : World} {p : Addr} {v : Value} (o : Obj) (h : w.cell? p = some v) : (w.alloc o).cell? p = some v :=
  ((below_alloc w o).cell (World.block_lt_of_cell? w p h)).trans h
theorem set_below {B G : Nat} {w0 w : World} (h : Below B w0 w) (hG : B ≤ G) (u v : Value) : Below B w0 ((w.setCell ⟨G, 0, none⟩ u).setCell ⟨G, 1, none⟩ v) :=
  (h.setCell (p := ⟨G, 0, none⟩) hG _).setCell (p := ⟨G, 1, none⟩) hG _
theorem far_cell {w : World} {G : Nat} {p : Addr} {z : Value} (h : w.cell? p = some z) (hne : p.block ≠ G) (u v : Value) :
    ((w.setCell ⟨G, 0, none⟩ u).setCell ⟨G, 1, none⟩ v).cell? p = some z :=
  (World.cell?_of_block (box2_other hne u v)).trans h
theorem lt_ne {a b : Nat} (h : a < b) : a ≠ b := by omega
/-- Dealt shares open to the value: any successive ones that are enough. -/
theorem thr_open {p x s a : Int} {N K f : Nat} (hx : isEl p x) (hN : N ≤ 5) (hNp : (N : Int) < p) (hf : f + K + 1 ≤ N) :
    openP p (ptsN f (K + 1)) (((shN p (polyS p x s a K) N).drop f).take (K + 1)) = x := by
  have hl : (((shN p (polyS p x s a K) N).drop f).take (K + 1)).length = K + 1 := by rw [List.length_take, List.length_drop, shN_length]; omega
  have pl := ptsN_length f (K + 1)
  refine open_shares hx.1 (polyS_zero (s := s) (a := a) hx K) (pointsOk_iff.2 ⟨by omega, by omega, ptsN_el hx.1 (by omega), ⟨hx.1, fun y hy => (shN_el hx.1 _ N).2 y (List.mem_of_mem_drop (List.mem_of_mem_take hy))⟩, ptsN_distinct _ _, fun j hj => ?_⟩) (by rw [polyS_length, pl]; omega) (fun j hj => ?_)
  · rw [pl] at hj
    rw [ptsN_at hj]; omega
  · rw [pl] at hj
    rw [drop_take_at hj, ptsN_at hj, shN_at _ _ (show f + j < N by omega)]
    simp
theorem thr_cons {p x s a : Int} {N K : Nat} (hx : isEl p x) (hN : 1 ≤ N ∧ N ≤ 5) (hNp : (N : Int) < p) (hK : K < N) {k : Int} (hk : (K : Int) ≤ k) : consC p (shN p (polyS p x s a K) N) k := by
  refine cons_shares ⟨by rw [shN_length]; exact hN, by rw [shN_length]; exact hNp, shN_el hx.1 _ N, by omega⟩ ?_
  rw [polyS_length]
  unfold consM
  split <;> omega
theorem thr_at {p x : Int} (hx : isEl p x) (h3 : 3 < p) : polyI p [x] 3 = x := by
  rw [polyI_yes (fun y hy => by have : y = x := by simpa using hy
                                rw [this]; exact hx) ⟨hx.1, by omega, h3⟩]
  show (0 * 3 + x) % p = x
  rw [Int.zero_mul, Int.zero_add, hx.mod]
/-- The primes of the drawn laws. -/
def pr7 (p : Int) : Prop := p = 7 ∨ p = 11 ∨ p = 13 ∨ p = 97
theorem pr7.isP {p : Int} (h : pr7 p) : isP p := by
  rcases h with rfl | rfl | rfl | rfl <;> decide +kernel
theorem pr7.le {p : Int} (h : pr7 p) : 7 ≤ p ∧ p ≤ 97 := by unfold pr7 at h; omega
theorem set_el {p : Int} {l : List Int} (h : allEl p l) (i : Nat) {z : Int} (hz : isEl p z) : allEl p (l.set i z) := ⟨h.1, fun y hy => (List.mem_or_eq_of_mem_set hy).elim (h.2 y) (fun e => by rw [e]; exact hz)⟩
theorem wrong_no {p x s a z : Int} {N K i : Nat} (hx : isEl p x) (hNp : (N : Int) < p) (hK : K + 2 ≤ N) (hi : i < N) (hz : isEl p z) (hne : z ≠ (shN p (polyS p x s a K) N).getD i 0) :
    ¬ consC p ((shN p (polyS p x s a K) N).set i z) K := by
  rw [shN_at _ _ hi] at hne
  exact cons_wrong (by omega) (by rw [polyS_length]; omega) (by omega) hx.1 hNp hi hz hne
theorem wrong_all {p z : Int} {N i : Nat} {zs : List Int} (he : allEl p zs) (hl : zs.length = N) (hN : 1 ≤ N ∧ N ≤ 5) (hNp : (N : Int) < p) (hz : isEl p z) : consC p (zs.set i z) ((N : Int) - 1) := by
  have hls : (zs.set i z).length = N := by rw [List.length_set, hl]
  refine ⟨⟨by omega, by omega, set_el he i hz, by omega⟩, fun j hj hm => ?_⟩
  rw [hls] at hj hm
  unfold consM at hm
  rw [if_neg (by omega)] at hm
  omega
theorem wrong_ne {p v r : Int} (hv : 0 ≤ v ∧ v < p) (hr : 0 ≤ r ∧ r < p - 1) : (v + 1 + r) % p ≠ v := by
  intro e
  by_cases h : v + 1 + r < p
  · rw [Int.emod_eq_of_lt (by omega) h] at e; omega
  · have h1 : (v + 1 + r) % p = v + 1 + r - p := by
      have h2 : ((v + 1 + r - p) + p) % p = v + 1 + r - p := by rw [Int.add_emod_right, Int.emod_eq_of_lt (by omega) (by omega)]
      rwa [show (v + 1 + r - p) + p = v + 1 + r by omega] at h2
    omega
/-- Shares that were dealt, in a list of which all that is known is what it reads; the tape after them in a box. -/
structure Dealt (W wx : World) (p x : Int) (N K : Nat) (s a b : Int) (g1 e1 G : Nat) : Prop where
  tape : isTape s a
  cap : N ≤ e1
  ints : IntsB wx.heap.size wx (some ⟨g1, 0, none⟩) (shN p (polyS p x s a K) N)
  box : wx.heap[G]? = some (.cells #[.int .i64 s, .int .i64 b] 27 (0, 0))
  low : Below W.heap.size W wx
theorem DrawTape_keep (A : Option Addr) (n c : Nat) (W w : World) (hb : Bytes W.heap.size W A n) (hn : n ≤ 2000000) (p1 : Addr) (v1 : Value) (c1 : w.cell? p1 = some v1) (hl : Below W.heap.size W w) :
    Calls Try.prog 15 #[.slice A n c] w fun e w' => ∃ s a : Int, e = .returned (.agg #[.int .i64 s, .int .i64 a]) ∧ isTape s a ∧ a < 50 ∧ w'.cell? p1 = some v1 ∧ Below W.heap.size W w' ∧ W.heap.size ≤ w'.heap.size ∧ Below w.heap.size w w' :=
  (DrawTape_any A n c w (hb.more hl hl.size) hn).mono fun _ _ ⟨s, a, he, hs, h0, h1, hb'⟩ => ⟨s, a, he, ⟨hs, h0, by omega⟩, h1, (hb'.cell (World.block_lt_of_cell? w p1 c1)).trans c1, hl.trans (hb'.mono hl.size), Nat.le_trans hl.size hb'.size, hb'⟩
theorem SharePoly_keep (p x : Int) (N K : Nat) (s a : Int) (hx : isEl p x) (hN : 1 ≤ N ∧ N ≤ 5) (hNp : (N : Int) < p) (hK : K < N) (hs : isTape s a) (ha : a ≤ 900000) (W w : World) (p1 : Addr) (v1 : Value) (c1 : w.cell? p1 = some v1) (hl : Below W.heap.size W w) :
    Calls Try.prog 14 #[.int .i64 p, .int .i64 x, .int .i64 N, .int .i64 K, .agg #[.int .i64 s, .int .i64 a]] w fun e w' => ∃ g1 e1 : Nat, e = .returned (.tuple #[.slice (some ⟨g1, 0, none⟩) N e1, .agg #[.int .i64 s, .int .i64 (a + K)]]) ∧ w'.ownsRow w.heap.size 3 1 (.slice (some ⟨g1, 0, none⟩) N e1) N (intVals (shN p (polyS p x s a K) N)) ∧ w'.cell? p1 = some v1 ∧ Below W.heap.size W w' ∧ W.heap.size ≤ w'.heap.size ∧ Below w.heap.size w w' :=
  (impl_SharePoly_yes p x N K s a hx hN hNp hK hs ha w).mono fun _ _ ⟨A, m, c, he, hm, ho, hb'⟩ => by
    obtain rfl : N = m := by rw [← hm, shN_length]
    obtain ⟨g1, rfl, _, _⟩ := own_addr ho (by omega)
    exact ⟨g1, c, he, ho, (hb'.cell (World.block_lt_of_cell? w p1 c1)).trans c1, hl.trans (hb'.mono hl.size), Nat.le_trans hl.size hb'.size, hb'⟩
theorem Dealt.last {W w w' : World} {p x : Int} {N K : Nat} {s a b : Int} {g1 e1 : Nat} (hs : isTape s a) (ho : w'.ownsRow w.heap.size 3 1 (.slice (some ⟨g1, 0, none⟩) N e1) N (intVals (shN p (polyS p x s a K) N))) (hl : Below W.heap.size W w') :
    Dealt W (w'.alloc (.cells #[.int .i64 s, .int .i64 b] 27)) p x N K s a b g1 e1 w'.heap.size :=
  ⟨hs, (OwnI.of_own ho).cap, ((Ints.of_own ho).below (below_alloc w' _)).bound, heap_alloc_new w' _, hl.alloc hl.size _⟩
theorem Dealt.early {W w w' : World} {p x : Int} {N K : Nat} {s a b u v : Int} {g1 e1 G : Nat} (hs : isTape s a) (ho : w'.ownsRow w.heap.size 3 1 (.slice (some ⟨g1, 0, none⟩) N e1) N (intVals (shN p (polyS p x s a K) N))) (hl : Below W.heap.size W w') (hbox : w'.heap[G]? = some (.cells #[.int .i64 u, .int .i64 v] 27 (0, 0))) (hG : G < w.heap.size) (hW : W.heap.size ≤ G) :
    Dealt W ((w'.setCell ⟨G, 0, none⟩ (.int .i64 s)).setCell ⟨G, 1, none⟩ (.int .i64 b)) p x N K s a b g1 e1 G :=
  ⟨hs, (OwnI.of_own ho).cap, (Ints.of_own (ownsRow_setCell_below (ownsRow_setCell_below ho (a := ⟨G, 0, none⟩) hG (.int .i64 s)) (a := ⟨G, 1, none⟩) hG (.int .i64 b))).bound, box2_set hbox _ _, (hl.setCell (p := ⟨G, 0, none⟩) hW _).setCell (p := ⟨G, 1, none⟩) hW _⟩
/-- Sums of shares are shares of the sum. -/
theorem lin_add {p : Int} (hp : isP p) (F G : List Int) (N : Nat) : addL p (shN p F N) (shN p G N) = shN p (addP F G) N := by
  unfold addL
  rw [if_pos ⟨by rw [shN_length, shN_length], shN_el hp F N, shN_el hp G N⟩]
  unfold addN
  rw [shN_length]
  unfold shN
  refine List.map_congr_left (fun i hi => ?_)
  have hiN : i < N := List.mem_range.1 hi
  rw [map_at hiN, map_at hiN, faddI_yes (atI_el hp _ _) (atI_el hp _ _), atI_is hp, atI_is hp, atI_is hp, evalZ_add, ← Int.add_emod]
theorem lin_zero {p u v s a s' a' : Int} (K : Nat) : evalZ (addP (polyS p (u % p) s a K) (polyS p (v % p) s' a' K)) 0 % p = (u + v) % p := by
  rw [evalZ_add]
  unfold polyS
  rw [evalZ_cons, evalZ_cons, Int.zero_mul, Int.zero_mul, Int.add_zero, Int.add_zero, ← Int.add_emod]
theorem lin_len {p x y s a s' a' : Int} (K : Nat) : (addP (polyS p x s a K) (polyS p y s' a' K)).length ≤ K + 1 :=
  addP_length _ _ _ (by rw [polyS_length]; omega) (by rw [polyS_length]; omega)
theorem lin_open {p r : Int} {F : List Int} {N K : Nat} (hp : isP p) (h0 : evalZ F 0 % p = r) (hF : F.length ≤ K + 1) (hN : 1 ≤ N ∧ N ≤ 5) (hNp : (N : Int) < p) (hK : K < N) : openP p (ptsN 0 N) (shN p F N) = r := by
  have pl := ptsN_length 0 N
  refine open_shares hp h0 (pointsOk_iff.2 ⟨by omega, by rw [shN_length, pl], ptsN_el hp (by omega), shN_el hp _ N, ptsN_distinct _ _, fun j hj => ?_⟩) (by omega) (fun j hj => ?_)
  · rw [pl] at hj
    rw [ptsN_at hj]; omega
  · rw [pl] at hj
    rw [ptsN_at hj, shN_at _ _ hj]
    simp
theorem lin_cons {p : Int} {F : List Int} {N K : Nat} (hp : isP p) (hF : F.length ≤ K + 1) (hN : 1 ≤ N ∧ N ≤ 5) (hNp : (N : Int) < p) (hK : K < N) : consC p (shN p F N) K := by
  refine cons_shares ⟨by rw [shN_length]; exact hN, by rw [shN_length]; exact hNp, shN_el hp _ N, by omega⟩ ?_
  unfold consM
  split <;> omega
theorem OpenPoly_keep (p : Int) (A B : Option Addr) (n c d : Nat) (pts vals : List Int) (r : Int) (hr : openP p pts vals = r) (W w : World) (hx : IntsB W.heap.size W A pts) (hy : IntsB W.heap.size W B vals) (lx : pts.length = n) (ly : vals.length = n) (mx : n ≤ 2000000) (hcn : n ≤ c) (p1 p2 : Addr) (v1 v2 : Value) (c1 : w.cell? p1 = some v1) (c2 : w.cell? p2 = some v2) (hl : Below W.heap.size W w) :
    Calls Try.prog 16 #[.int .i64 p, .slice A n c, .slice B n d] w fun e w' => e = .returned (.int .i64 r) ∧ w'.cell? p1 = some v1 ∧ w'.cell? p2 = some v2 ∧ Below W.heap.size W w' ∧ W.heap.size ≤ w'.heap.size :=
  (impl_OpenPoly p A B n n c d pts vals r hr w ((hx.below hl).ints hl.size) ((hy.below hl).ints hl.size) lx ly mx mx hcn).mono fun _ _ ⟨he, hb'⟩ => ⟨he, (hb'.cell (World.block_lt_of_cell? w p1 c1)).trans c1, (hb'.cell (World.block_lt_of_cell? w p2 c2)).trans c2, hl.trans (hb'.mono hl.size), Nat.le_trans hl.size hb'.size⟩
theorem PolyConsistent_keep (p : Int) (A : Option Addr) (n c : Nat) (sh : List Int) (q : Int) (r : Bool) (hr : decide (consC p sh q) = r) (hq : q ≤ 9223372036854775807) (W w : World) (hx : IntsB W.heap.size W A sh) (lx : sh.length = n) (mx : n ≤ 2000000) (hcn : n ≤ c) (p1 p2 : Addr) (v1 v2 : Value) (c1 : w.cell? p1 = some v1) (c2 : w.cell? p2 = some v2) (hl : Below W.heap.size W w) :
    Calls Try.prog 17 #[.int .i64 p, .slice A n c, .int .i64 q] w fun e w' => e = .returned (.bool r) ∧ w'.cell? p1 = some v1 ∧ w'.cell? p2 = some v2 ∧ Below W.heap.size W w' ∧ W.heap.size ≤ w'.heap.size :=
  (impl_PolyConsistent p A n c sh q r hr hq w ((hx.below hl).ints hl.size) lx mx hcn).mono fun _ _ ⟨he, hb'⟩ => ⟨he, (hb'.cell (World.block_lt_of_cell? w p1 c1)).trans c1, (hb'.cell (World.block_lt_of_cell? w p2 c2)).trans c2, hl.trans (hb'.mono hl.size), Nat.le_trans hl.size hb'.size⟩
theorem SharePoly_keep3 (p x : Int) (N K : Nat) (s a : Int) (hx : isEl p x) (hN : 1 ≤ N ∧ N ≤ 5) (hNp : (N : Int) < p) (hK : K < N) (hs : isTape s a) (ha : a ≤ 900000) (W w : World) (p1 p2 p3 : Addr) (v1 v2 v3 : Value) (c1 : w.cell? p1 = some v1) (c2 : w.cell? p2 = some v2) (c3 : w.cell? p3 = some v3) (hl : Below W.heap.size W w) :
    Calls Try.prog 14 #[.int .i64 p, .int .i64 x, .int .i64 N, .int .i64 K, .agg #[.int .i64 s, .int .i64 a]] w fun e w' => ∃ g1 e1 : Nat, e = .returned (.tuple #[.slice (some ⟨g1, 0, none⟩) N e1, .agg #[.int .i64 s, .int .i64 (a + K)]]) ∧ w'.ownsRow w.heap.size 3 1 (.slice (some ⟨g1, 0, none⟩) N e1) N (intVals (shN p (polyS p x s a K) N)) ∧ w'.cell? p1 = some v1 ∧ w'.cell? p2 = some v2 ∧ w'.cell? p3 = some v3 ∧ Below W.heap.size W w' ∧ W.heap.size ≤ w'.heap.size ∧ Below w.heap.size w w' :=
  (SharePoly_keep p x N K s a hx hN hNp hK hs ha W w p1 v1 c1 hl).mono fun _ _ ⟨g1, e1, he, ho, k1, k2, k3, k4⟩ => ⟨g1, e1, he, ho, k1, (k4.cell (World.block_lt_of_cell? w p2 c2)).trans c2, (k4.cell (World.block_lt_of_cell? w p3 c3)).trans c3, k2, k3, k4⟩
end Go.Proofs.Ytcjgoonkdjaccaa
