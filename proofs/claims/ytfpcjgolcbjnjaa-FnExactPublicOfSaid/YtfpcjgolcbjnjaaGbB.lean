/- A garbling that is being made: its box, the labels for 0 and the tables in blocks of the call's own. No condition. -/
import Derived.Test.YtfpcjgolcbjnjaaProg
import Derived.Test.YtfpcjgolcbjnjaaGbP
import Derived.Test.YtfpcjgolcbjnjaaB1
namespace Go.Proofs.Ytfpcjgolcbjnjaa
open Go Go.RowKit
theorem grown_at (w : World) (g i : Nat) (x : Value) : w.grownBy (w.setCell ⟨g, i, none⟩ x) (some g) := ⟨rfl, rfl, rfl, by simp, fun k _ h2 => Below.heap_setCell _ _ _ _ (by simpa using fun e => h2 (by rw [e]))⟩
/-- The box has some cells ahead (a bigger struct), then the common difference, the labels for 0, the tables. -/
structure Gb (B g : Nat) (w0 w : World) (pre : List Value) (T : TypeId) (d : Int) (vz vt : Value) (n m : Nat) (zs ts : List Int) : Prop where
  box : w.heap[g]? = some (.cells ⟨pre ++ [.int .i64 d, vz, vt]⟩ T (0, 0))
  zer : w.ownsRow B 3 1 vz n (intVals zs)
  tab : w.ownsRow B 3 1 vt m (intVals ts)
  nz : vz.ownBlock ≠ some g
  nt : vt.ownBlock ≠ some g
  ap : apart vz vt
  ge : B ≤ g
  low : Below B w0 w
  size : B ≤ w.heap.size
section
variable {B g n m b c H : Nat} {w0 w w1 w2 : World} {pre : List Value} {T : TypeId} {d x y : Int} {vz vt vz' vt' : Value} {zs ts ys : List Int}
theorem Gb.below (h : Gb B g w0 w pre T d vz vt n m zs ts) (hb : Below w.heap.size w w1) : Gb B g w0 w1 pre T d vz vt n m zs ts :=
  ⟨heap_below h.box hb, own_below h.zer hb, own_below h.tab hb, h.nz, h.nt, h.ap, h.ge, h.low.trans (hb.mono h.size), Nat.le_trans h.size hb.size⟩
theorem Gb.alloc (h : Gb B g w0 w pre T d vz vt n m zs ts) (o : Obj) : Gb B g w0 (w.alloc o) pre T d vz vt n m zs ts := h.below (below_alloc _ _)
theorem Gb.drew (h : Gb B g w0 w pre T d vz vt n m zs ts) : Gb B g w0 w.drew pre T d vz vt n m zs ts := ⟨h.box, h.zer, h.tab, h.nz, h.nt, h.ap, h.ge, h.low.drew, h.size⟩
theorem Gb.drewN (h : Gb B g w0 w pre T d vz vt n m zs ts) (i : Nat) : Gb B g w0 (w.drewN i) pre T d vz vt n m zs ts := ⟨h.box, h.zer, h.tab, h.nz, h.nt, h.ap, h.ge, below_drewN h.low i, h.size⟩
theorem Gb.start (h : Gb B g w0 w pre T d vz vt n m zs ts) : Gb B g w w pre T d vz vt n m zs ts := ⟨h.box, h.zer, h.tab, h.nz, h.nt, h.ap, h.ge, Below.refl _ _, h.size⟩
theorem Gb.join (h : Gb B g w0 w pre T d vz vt n m zs ts) {n' m' : Nat} {zs' ts' : List Int} (k : Gb B g w w1 pre T d vz' vt' n' m' zs' ts') : Gb B g w0 w1 pre T d vz' vt' n' m' zs' ts' :=
  ⟨k.box, k.zer, k.tab, k.nz, k.nt, k.ap, k.ge, h.low.trans k.low, k.size⟩
theorem Gb.lt (h : Gb B g w0 w pre T d vz vt n m zs ts) : g < w.heap.size := heap_lt h.box
theorem Gb.zlen (h : Gb B g w0 w pre T d vz vt n m zs ts) : zs.length = n := by have := h.zer.1; rw [intVals_length] at this; omega
theorem Gb.tlen (h : Gb B g w0 w pre T d vz vt n m zs ts) : ts.length = m := by have := h.tab.1; rw [intVals_length] at this; omega
theorem Gb.zform (h : Gb B g w0 w pre T d vz vt n m zs ts) : ∃ (A : Option Addr) (c : Nat), vz = .slice A n c := by
  obtain ⟨A, m, c, e, rfl⟩ := ownsRow_slice h.zer
  exact ⟨A, c, e⟩
theorem Gb.tform (h : Gb B g w0 w pre T d vz vt n m zs ts) : ∃ (A : Option Addr) (c : Nat), vt = .slice A m c := by
  obtain ⟨A, m, c, e, rfl⟩ := ownsRow_slice h.tab
  exact ⟨A, c, e⟩
theorem Gb.zints {A : Option Addr} (h : Gb B g w0 w pre T d (.slice A n c) vt n m zs ts) : Ints w A zs := Ints.of_own h.zer
theorem Gb.cell (h : Gb B g w0 w pre T d vz vt n m zs ts) {i : Nat} {u : Value} (e : (⟨pre ++ [.int .i64 d, vz, vt]⟩ : Array Value)[i]? = some u) : w.cell? ⟨g, i, none⟩ = some u ∧ w.frozen? ⟨g, i, none⟩ = false := blk h.box e
theorem pre_set_z (pre : List Value) (u v x : Value) (t : Value) : (⟨pre ++ [u, v, t]⟩ : Array Value).setIfInBounds (pre.length + 1) x = ⟨pre ++ [u, x, t]⟩ := by
  apply Array.ext'
  simp [Array.setIfInBounds]
theorem pre_set_t (pre : List Value) (u v x : Value) (t : Value) : (⟨pre ++ [u, v, t]⟩ : Array Value).setIfInBounds (pre.length + 2) x = ⟨pre ++ [u, v, x]⟩ := by
  apply Array.ext'
  simp [Array.setIfInBounds]
/-- Two entries were appended to the tables, and the box says so. -/
theorem Gb.putT (h : Gb B g w0 w pre T d vz vt n m zs ts) (ho : w2.ownsRow B 3 1 (.slice (some ⟨b, 0, none⟩) (m + 2) c) (m + 2) (intVals ts ++ [.int .i64 x, .int .i64 y])) (hg : w.grownBy w2 vt.ownBlock) (hat : vt.ownBlock = some b ∨ b = H) (hH : w.heap.size ≤ H) :
    Gb B g w0 (w2.setCell ⟨g, pre.length + 2, none⟩ (.slice (some ⟨b, 0, none⟩) (m + 2) c)) pre T d vz (.slice (some ⟨b, 0, none⟩) (m + 2) c) n (m + 2) zs (ts ++ [x, y]) := by
  have hgl := h.lt
  have eo : (Value.slice (some ⟨b, 0, none⟩) (m + 2) c).ownBlock = some b := rfl
  have hbg : b ≠ g := by
    rcases hat with e | e
    · intro e1; subst e1; exact h.nt e
    · omega
  have hap : apart vz (.slice (some ⟨b, 0, none⟩) (m + 2) c) := fun q e e' => by
    rw [eo] at e'
    injection e' with e'
    subst e'
    rcases hat with e2 | e2
    · exact h.ap _ e e2
    · have := (h.zer.lt _ e).2; omega
  have hz : w2.ownsRow B 3 1 vz n (intVals zs) := h.zer.kept hg (by
    rcases hv : vz.ownBlock with _ | q
    · exact .inl rfl
    · exact .inr (fun e => h.ap q hv e.symm))
  have gb := grown_at w2 g (pre.length + 2) (.slice (some ⟨b, 0, none⟩) (m + 2) c)
  refine ⟨?_, hz.kept gb (.inr h.nz), ?_, h.nz, ?_, hap, h.ge, (h.low.grown hg h.size (fun q e => (h.tab.lt q e).1)).setCell h.ge _, by simpa using Nat.le_trans h.size hg.size⟩
  · rw [heap_set (i := pre.length + 2) (heap_grown h.box hg h.nt), pre_set_t]
  · rw [show intVals (ts ++ [x, y]) = intVals ts ++ [.int .i64 x, .int .i64 y] by simp [intVals]]
    exact ho.kept gb (.inr (by rw [eo]; intro e; injection e with e; exact hbg e))
  · rw [eo]; intro e; injection e with e; exact hbg e
/-- A label was appended, and the box says so. -/
theorem Gb.putZ (h : Gb B g w0 w pre T d vz vt n m zs ts) (ho : w2.ownsRow B 3 1 (.slice (some ⟨b, 0, none⟩) (n + 1) c) (n + 1) (intVals zs ++ [.int .i64 x])) (hg : w.grownBy w2 vz.ownBlock) (hat : vz.ownBlock = some b ∨ b = H) (hH : w.heap.size ≤ H) :
    Gb B g w0 (w2.setCell ⟨g, pre.length + 1, none⟩ (.slice (some ⟨b, 0, none⟩) (n + 1) c)) pre T d (.slice (some ⟨b, 0, none⟩) (n + 1) c) vt (n + 1) m (zs ++ [x]) ts := by
  have hgl := h.lt
  have eo : (Value.slice (some ⟨b, 0, none⟩) (n + 1) c).ownBlock = some b := rfl
  have hbg : b ≠ g := by
    rcases hat with e | e
    · intro e1; subst e1; exact h.nz e
    · omega
  have hap : apart (.slice (some ⟨b, 0, none⟩) (n + 1) c) vt := fun q e e' => by
    rw [eo] at e
    injection e with e
    subst e
    rcases hat with e2 | e2
    · exact h.ap _ e2 e'
    · have := (h.tab.lt _ e').2; omega
  have ht : w2.ownsRow B 3 1 vt m (intVals ts) := h.tab.kept hg (by
    rcases hv : vt.ownBlock with _ | q
    · exact .inl rfl
    · exact .inr (fun e => h.ap q e.symm hv))
  have gb := grown_at w2 g (pre.length + 1) (.slice (some ⟨b, 0, none⟩) (n + 1) c)
  refine ⟨?_, ?_, ht.kept gb (.inr h.nt), ?_, h.nt, hap, h.ge, (h.low.grown hg h.size (fun q e => (h.zer.lt q e).1)).setCell h.ge _, by simpa using Nat.le_trans h.size hg.size⟩
  · rw [heap_set (i := pre.length + 1) (heap_grown h.box hg h.nz), pre_set_z]
  · rw [show intVals (zs ++ [x]) = intVals zs ++ [.int .i64 x] by simp [intVals]]
    exact ho.kept gb (.inr (by rw [eo]; intro e; injection e with e; exact hbg e))
  · rw [eo]; intro e; injection e with e; exact hbg e
end
end Go.Proofs.Ytfpcjgolcbjnjaa
