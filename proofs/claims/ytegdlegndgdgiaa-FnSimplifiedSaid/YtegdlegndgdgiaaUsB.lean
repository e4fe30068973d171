/- Ranging backwards over the gates of a circuit: the library's iterator, for every loop body that keeps what it reads. -/
import Derived.RangeFuncNested
import Derived.RangeFuncBound
import Derived.RangeFuncCalls
import Derived.RangeFuncLeaves
import Derived.Shelf.Abstract
import Derived.Shelf.RegionOpen
import Derived.WalkKit
import Derived.OwnWalkIn
import Derived.TacticsInMore
import Derived.LoopNIn
import Derived.LoopIn
import Derived.Test.YtegdlegndgdgiaaProg
import Derived.Test.YtegdlegndgdgiaaCirM
import Derived.Test.YtegdlegndgdgiaaB1
namespace Go.Proofs.Ytegdlegndgdgiaa
open Go Go.RowKit Go.Shelf
attribute [local go_sem] Oper.semAt_some
/-- What comes in a round: an index of the gates. -/
abbrev GtI (len : Nat) := { j : Nat // j < len }
def encG (z : List Int) (len : Nat) (x : GtI len) : Array Value := #[.int .i64 (x.1 : Int), .agg #[.int .i64 (gk z x.1), .int .i64 (ga z x.1), .int .i64 (gb z x.1)]]
/-- What the rounds must keep: what lay below n₀, and the block of the slice. -/
def KpG (n₀ Bs : Nat) (W W' : World) : Prop := Below n₀ W W' ∧ W'.heap[Bs]? = W.heap[Bs]?
theorem KpG.refl (n₀ Bs : Nat) (W : World) : KpG n₀ Bs W W := ⟨Below.refl _ _, rfl⟩
theorem KpG.trans {n₀ Bs : Nat} {A B C : World} (h : KpG n₀ Bs A B) (k : KpG n₀ Bs B C) : KpG n₀ Bs A C := ⟨h.1.trans k.1, k.2.trans h.2⟩
theorem KpG.put {n₀ Bs : Nat} {w : World} (hn : n₀ ≤ w.heap.size) (hs : Bs < w.heap.size) (W : World) (l : Nat) (o o' : Obj) (hl : w.heap.size ≤ l) (h : W.heap[l]? = some o) (hc : o.isCells = false) (hw : o.isWalk = false) : KpG n₀ Bs W (W.putObj l o') :=
  ⟨belowK_b hn W l o o' hl h hc hw, World.putObj_heap_other (fun e => by omega)⟩
theorem KpG.cell {n₀ Bs : Nat} {W W' : World} (h : KpG n₀ Bs W W') (i : Nat) : W'.cell? ⟨Bs, i, none⟩ = W.cell? ⟨Bs, i, none⟩ := World.cell?_of_block h.2
theorem range_rev {len j : Nat} (h : j < len) : (List.range' j (len - j)).reverse = (List.range' (j + 1) (len - (j + 1))).reverse ++ [j] := by
  rw [show len - j = (len - (j + 1)) + 1 by omega, List.range'_succ, List.reverse_cons]
set_option maxRecDepth 100000 in
set_option maxHeartbeats 2000000 in
theorem backG1_in (F : Fence) (n : Nat) (hf : F.fn 160) (hro : F.round = none) (hn : 1 ≤ n) (l Bs n₀ len cap : Nat) (A : Option Addr) (z : List Int) (hl : z.length = len * 3) (hm : len ≤ 2000000) (J Jx : List (GtI len) → World → Prop)
    (hY : ∀ pre x W, J pre W → pre.length < len → YieldAt F (n - 1) Try.prog l (encG z len x) W fun e W' =>
      (e = .returned (.bool true) ∧ J (pre ++ [x]) W' ∧ KpG n₀ Bs W W') ∨ (e = .returned (.bool false) ∧ Jx (pre ++ [x]) W'))
    (W : World) (hBs : W.cell? ⟨Bs, 0, none⟩ = some (.slice A len cap)) (hE : IntsB n₀ W A z) (h0 : J [] W) :
    CallsIn F n Try.prog 160 #[.func (.yield l) #[] #[], .pointer (some ⟨Bs, 0, none⟩)] W fun e W' => (∃ v, e = .returned v) ∧
      ((∃ ys : List (GtI len), ys.map (fun a => a.1) = (List.range len).reverse ∧ J ys W') ∨ (∃ pre : List (GtI len), True ∧ Jx pre W')) := by
  have Hl := Lib.hid hl
  clear hl
  refine callsIn_of_wp Try.func160 rfl hf ?_ hro
  simp only [Try.ntmps160, List.size_toArray, List.length_cons, List.length_nil, Nat.reduceAdd, Nat.reduceSub, Array.replicate_succ, Array.replicate_zero, List.push_toArray, List.append_toArray, List.nil_append, List.cons_append]
  gi_wp2
  gi_loopw [3] (fun i wr => ∃ (k : Nat) (pre : List (GtI len)), k ≤ len ∧ i = .int .i64 ((k : Int) - 1) ∧ pre.length + k = len ∧ Hid (pre.map (fun a => a.1) = (List.range' k (len - k)).reverse) ∧ J pre wr ∧ KpG n₀ Bs W wr) (fun i _ => (intOf i + 1).toNat)
  case atStart => exact ⟨len, [], Nat.le_refl _, rfl, by simp, Lib.hid (by simp), h0, KpG.refl _ _ _⟩
  case round =>
    obtain ⟨k, pre, hk, rfl, hpl, hpm, hJs, hnx⟩ := hrel
    have cBs := (hnx.cell 0).trans hBs
    by_cases hlt : 0 < k
    · obtain ⟨j, rfl⟩ : ∃ j, k = j + 1 := ⟨k - 1, by omega⟩
      obtain ⟨b, o, rfl, hb, c0⟩ := (hE.below hnx.1).at_ (j := j * 3) (by rw [Hl.out]; omega)
      obtain ⟨_, _, e1, _, c1⟩ := (hE.below hnx.1).at_ (j := j * 3 + 1) (by rw [Hl.out]; omega)
      injection e1 with e1; injection e1 with e11 e12; subst e11 e12
      rw [← Nat.add_assoc] at c1
      obtain ⟨_, _, e1, _, c2⟩ := (hE.below hnx.1).at_ (j := j * 3 + 2) (by rw [Hl.out]; omega)
      injection e1 with e1; injection e1 with e11 e12; subst e11 e12
      rw [← Nat.add_assoc] at c2
      have Hdr := Lib.hid (range_rev (len := len) (j := j) (by omega))
      obtain ⟨fn, tmps, assign, body, hy, hR⟩ := hY pre ⟨j, by omega⟩ wr hJs (by omega)
      dsimp only [encG, gk, ga, gb] at hy
      generalize z.getD (j * 3) 0 = x0 at c0 hy
      generalize z.getD (j * 3 + 1) 0 = x1 at c1 hy
      generalize z.getD (j * 3 + 2) 0 = x2 at c2 hy
      have i0 : ((j + 1 : Nat) : Int) - 1 = (j : Int) := by omega
      rw [i0]
      have j0 : (0 : Int) ≤ j := by omega
      have j1 : (j : Int) < len := by omega
      gi_wp2
      refine hR.mono ?_
      rintro e W3 (⟨rfl, hJ3, hk3⟩ | ⟨rfl, hJx3⟩)
      · gi_wp2
        go_roundw
        case rel => exact ⟨j, pre ++ [⟨j, by omega⟩], by omega, by go_num, by simp; omega, Lib.hid (by rw [Hdr.out, List.map_append, hpm.out]; rfl), hJ3, hnx.trans hk3⟩
        case measure => simp [intOf]
      · gi_wp2
        refine bodyPost_ret (results_none rfl _ _ _) rfl ?_
        exact ⟨⟨_, rfl⟩, .inr ⟨_, trivial, hJx3⟩⟩
    · obtain rfl : k = 0 := by omega
      gi_wp2
      go_end0
      exact ⟨⟨_, rfl⟩, .inl ⟨pre, by have := hpm.out; rw [this, Nat.sub_zero, ← List.range_eq_range'], hJs⟩⟩
theorem backG_in (F : Fence) (n : Nat) (hf : F.fn 148) (hro : F.round = none) (A : Option Addr) (len cap : Nat) (w : World) :
    CallsIn F n Try.prog 148 #[.slice A len cap] w fun e w' => e = .returned (.func (.func 160) #[] #[.pointer (some ⟨w.heap.size, 0, none⟩)]) ∧ w' = w.alloc (.cells #[.slice A len cap] 29) := by
  refine callsIn_of_wp Try.func148 rfl hf ?_ hro
  simp only [Try.ntmps148, List.size_toArray, List.length_cons, List.length_nil, Nat.reduceAdd, Nat.reduceSub, Array.replicate_succ, Array.replicate_zero, List.push_toArray, List.append_toArray, List.nil_append, List.cons_append]
  gi_wp2
  go_ret
  exact ⟨rfl, rfl⟩
theorem backG_stops (F : Fence) (n : Nat) (hf : F.fn 160) (hro : F.round = none) (hn : 1 ≤ n) (Bs n₀ len cap : Nat) (A : Option Addr) (z : List Int) (hl : z.length = len * 3) (hm : len ≤ 2000000) (w : World) (hBs : Bs < w.heap.size) (hn₀ : n₀ ≤ w.heap.size)
    (hc : w.cell? ⟨Bs, 0, none⟩ = some (.slice A len cap)) (hE : IntsB n₀ w A z) :
    SeqStopsK F n Try.prog 160 #[.pointer (some ⟨Bs, 0, none⟩)] (encG z len) (KpG n₀ Bs) (fun ys => ys.map (fun a => a.1) = (List.range len).reverse) (fun _ => True) len w := fun l J Jx W hW _ _ hY h0 =>
  backG1_in F n hf hro hn l Bs n₀ len cap A z hl hm J Jx hY W ((hW.cell (p := ⟨Bs, 0, none⟩) hBs).trans hc) (hE.below (hW.mono hn₀)) h0
end Go.Proofs.Ytegdlegndgdgiaa
