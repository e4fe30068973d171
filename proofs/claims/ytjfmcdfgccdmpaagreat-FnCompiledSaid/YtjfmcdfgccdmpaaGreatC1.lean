/- Lists of structs of ints as one list of numbers: what every such struct shares; how the laws' frames open them. No condition. And what goes with it. -/
import Derived.Test.YtjfmcdfgccdmpaaGreatProg
import Derived.Test.YtjfmcdfgccdmpaaGreatB1
import Derived.Deep.Slices
import Derived.Deep.Fields
import Derived.ChangeSame
import Derived.ChangeArms
import Derived.Handy
namespace Go.Proofs.YtjfmcdfgccdmpaaGreat
open Go Go.RowKit Go.ChangeShapes Go.WideShapes
theorem get_at {ys : List Value} {p q : Nat} {v : Value} (h : p < ys.length) : (ys.set p v)[q]? = if q = p then some v else ys[q]? := by
  rw [List.getElem?_set]
  by_cases e : p = q
  · subst e; simp [h]
  · rw [if_neg e, if_neg (Ne.symm e)]
/-- Made cells that are all the same. -/
theorem toList_same {cs : Array Value} {z : Value} (m : Nat) {n : Nat} (hm : 0 < m) (h : cs = Array.replicate m z) : (madeCells cs n).toList = List.replicate n z := by
  subst h
  apply List.ext_getElem?
  intro j
  by_cases hj : j < n
  · have : j % m < m := Nat.mod_lt _ hm
    simp [madeCells, hj, this]
  · simp [madeCells, hj]
section
variable {H : Type} {enc : TypeId × Value → H} {P : Program} {w : World} {base : Nat} {spare : Nat → Bool} {held : Bool}
/-- The cells of a struct whose fields are all ints. -/
theorem cells_all {t ti : TypeId} {fs : Array Field} {fuel : Nat} {cs : List Value} {x : DataW H × List MemPlace} (hs : P.underlying t = some (.struct fs)) (ht : P.underlying ti = some (.int .i64)) (hone : Go.Deep.oneCellFields P fs = true)
    (hall : fs.all (fun f => f.type == ti) = true) (hC : P.cellsOf t = fs.size) (h : DataW.trod enc P w base spare held fuel t cs = some x) :
    ∃ zs : List Int, cs = intVals zs ∧ zs.length = fs.size ∧ ∀ z ∈ zs, (Lit.int .i64 z).wf = true := by
  obtain ⟨xs, m, _, _, hl, hlen, hg⟩ := DataW.trod_struct hs h
  rw [hC] at hl
  have key : ∀ i, i < fs.size → ∃ z, cs[i]? = some (.int .i64 z) ∧ (Lit.int .i64 z).wf = true := by
    intro i hi
    have hf : fs[i]? = some fs[i] := Array.getElem?_eq_getElem hi
    obtain ⟨ho, hk⟩ := Go.Deep.hone_of hone i fs[i] hf
    have htf : fs[i].type = ti := by
      have := Array.all_eq_true.1 hall i hi
      simpa using this
    have h1 := hg i fs[i] hf
    rw [ho, hk, htf, List.getElem?_eq_getElem (show i < xs.length by omega)] at h1
    obtain ⟨z, hz, _, hw⟩ := DataW.trod_int ht h1
    refine ⟨z, ?_, hw⟩
    have e : ((cs.drop i).take 1)[0]? = some (.int .i64 z) := by rw [hz]; rfl
    simpa [List.getElem?_take, List.getElem?_drop] using e
  refine ⟨cs.map fun v => match v with | .int _ z => z | _ => 0, ?_, by rw [List.length_map, hl], ?_⟩
  · apply List.ext_getElem?
    intro i
    by_cases hi : i < fs.size
    · obtain ⟨z, hz, _⟩ := key i hi
      simp [intVals, hz]
    · simp [intVals, List.getElem?_eq_none (show cs.length ≤ i by omega)]
  · intro z hz
    obtain ⟨v, hv, rfl⟩ := List.mem_map.1 hz
    obtain ⟨i, hi, rfl⟩ := List.mem_iff_getElem.1 hv
    obtain ⟨z, hz', hw⟩ := key i (by omega)
    rw [List.getElem?_eq_getElem hi] at hz'
    injection hz' with hz'
    rw [hz']
    exact hw
/-- A slice of structs of m ints, as the frame of a law reads it. -/
theorem slice_all {fuel : Nat} {t e ti : TypeId} {fs : Array Field} (m : Nat) {vs : List Value} {x : DataW H × List MemPlace} (hsl : P.underlying t = some (.slice e)) (hs : P.underlying e = some (.struct fs)) (ht : P.underlying ti = some (.int .i64)) (hone : Go.Deep.oneCellFields P fs = true)
    (hall : fs.all (fun f => f.type == ti) = true) (hC : P.cellsOf e = fs.size) (hm : fs.size = m) (h : DataW.trod enc P w base spare held fuel t vs = some x) :
    ∃ (A : Option Addr) (n c : Nat) (zs : List Int), vs = [.slice A n c] ∧ Ints w A zs ∧ zs.length = n * m ∧ n ≤ 9223372036854775807 ∧ ∀ z ∈ zs, (Lit.int .i64 z).wf = true := by
  rcases Go.Deep.open_slice hsl h with ⟨hcs, _⟩ | ⟨x, len, cap, q, n, D, Pl, hcs, hb, hlc, hq, hqq, hx, hi⟩
  · exact ⟨none, 0, 0, [], hcs, Ints.nil _ _, by simp, by omega, fun z hz => by simp at hz⟩
  · refine ⟨some x, len, cap, ?_⟩
    have hlm : len ≤ q := by rw [hqq]; split <;> omega
    have key : ∀ k, k ≤ len → ∃ zs : List Int, zs.length = k * m ∧ (∀ j, j < k * m → w.cell? (x.add j) = some (.int .i64 (zs.getD j 0))) ∧ ∀ z ∈ zs, (Lit.int .i64 z).wf = true := by
      intro k
      induction k with
      | zero => exact fun _ => ⟨[], by simp, fun j hj => by simp at hj, fun z hz => by simp at hz⟩
      | succ k ih =>
        intro hk
        obtain ⟨zs, hl, hc, hw⟩ := ih (by omega)
        obtain ⟨cs', hcs', htr⟩ := hi k (by omega)
        obtain ⟨ys, hy, hly, hwy⟩ := cells_all hs ht hone hall hC htr
        rw [hC, hm] at hcs'
        rw [hm] at hly
        obtain ⟨_, _, hcell⟩ := World.cells?_some hcs'
        have e1 : (k + 1) * m = k * m + m := by rw [Nat.add_mul, Nat.one_mul]
        refine ⟨zs ++ ys, by rw [List.length_append, hl, hly, e1], fun j hj => ?_, fun z hz => ?_⟩
        · rw [e1] at hj
          by_cases hjk : j < k * m
          · rw [hc j hjk, List.getD_eq_getElem?_getD, List.getD_eq_getElem?_getD, List.getElem?_append_left (by omega)]
          · rw [List.getD_eq_getElem?_getD, List.getElem?_append_right (by omega), hl, ← List.getD_eq_getElem?_getD]
            have h1 := hcell (j - k * m) (by omega)
            rw [Go.Deep.add_add, show k * m + (j - k * m) = j by omega, hy] at h1
            rw [h1]
            simp [intVals, List.getElem?_map, List.getD_eq_getElem?_getD, List.getElem?_eq_getElem (show j - k * m < ys.length by omega)]
        · rcases List.mem_append.1 hz with h | h
          · exact hw z h
          · exact hwy z h
    obtain ⟨zs, hl, hc, hw⟩ := key len (Nat.le_refl _)
    refine ⟨zs, hcs, ?_, hl, by unfold maxLen at hq; omega, hw⟩
    exact (Ints.of_row (w := w) (x := x) (len := len * m) (cap := len * m) (zs := zs) (Nat.le_refl _) hl (fun i hi => hc i (by omega))).1 |> fun h => by rwa [List.take_of_length_le (by omega)] at h
end
end Go.Proofs.YtjfmcdfgccdmpaaGreat

namespace Go.Proofs.YtjfmcdfgccdmpaaGreat
open Go Go.RowKit
theorem elemGate : Elem Tryz.prog 28 73 3 24 := ⟨Tryz.underlying28, by
  obtain ⟨i, hi, hz, h1, h2⟩ := info_parts (show (Tryz.prog.info? 73).map (fun i => (i.zero, i.size, i.bytes)) = some (some (.agg #[.int .i64 0, .int .i64 0, .int .i64 0]), 3, 24) by kernel_rfl)
  exact ⟨i, _, hi, hz, h1, h2, rfl⟩, by omega⟩
theorem makeGate {w : World} {ops : Array Oper} {rest : List Oper} {o : Oper} {a : Act} {Q : Exit → Act → World → Prop} (hgd : o.guard = none) (l c : Operand)
    (ho : o.op = Op.makeSlice 28 l c) (base : Nat) (kl kc : IntKind) (L C : Int) (n : Nat) (hl : a.eval l = .int kl L) (hc : a.eval c = .int kc C) (hL : L = (n : Int)) (hC : C = (n : Int)) (b2 : 24 * n ≤ 281474976710656) (b3 : n ≤ maxLen) (b4 : base ≤ w.heap.size)
    (h : ∀ w', w'.ownsRow base 73 3 (.slice (some ⟨w.heap.size, 0, none⟩) n n) n (List.replicate (n * 3) (.int .i64 0)) → w.grownBy w' none → wpList Tryz.prog ops Q rest (a.put o.dst (.slice (some ⟨w.heap.size, 0, none⟩) n n)) w') :
    wpList Tryz.prog ops Q (o :: rest) a w := by
  obtain ⟨i, hi, hz, h1, h2⟩ := info_parts (show (Tryz.prog.info? 73).map (fun i => (i.zero, i.size, i.bytes)) = some (some (.agg #[.int .i64 0, .int .i64 0, .int .i64 0]), 3, 24) by kernel_rfl)
  refine wpList_make_full w hgd l c _ ho base 73 i _ 3 Tryz.underlying28 hi hz h1 kl kc L C n hl hc hL hC (by rw [h2]; exact b2) b3 b4 fun w' r1 r2 => h w' ?_ r2
  rw [show (Value.agg #[.int .i64 0, .int .i64 0, .int .i64 0]).cells = #[.int .i64 0, .int .i64 0, .int .i64 0] from rfl, toList_same (cs := #[.int .i64 0, .int .i64 0, .int .i64 0]) (z := .int .i64 0) 3 (by decide) rfl] at r1
  exact r1
end Go.Proofs.YtjfmcdfgccdmpaaGreat

namespace Go.Proofs.YtjfmcdfgccdmpaaGreat
open Go Go.RowKit
/-- A struct Circuit of the call's own: its slices lie in blocks from lo on and below hi, each in its own. -/
structure OwnCircuit (lo hi : Nat) (w : World) (v0 v1 : Value) (n0 n1 : Nat) (z0 z1 : List Int) : Prop where
  o0 : OwnA 3 lo hi w v0 n0 z0
  o1 : OwnA 1 lo hi w v1 n1 z1
  a01 : apart v0 v1
section
variable {w w1 : World} {lo hi lo' hi' : Nat} {v0 v1 : Value} {n0 n1 : Nat} {z0 z1 : List Int}
theorem OwnCircuit.mid (h : OwnCircuit lo hi w v0 v1 n0 n1 z0 z1) (k : Mid lo' hi' w w1) (hd : hi ≤ lo' ∨ hi' ≤ lo) : OwnCircuit lo hi w1 v0 v1 n0 n1 z0 z1 := ⟨h.o0.mid k hd, h.o1.mid k hd, h.a01⟩
theorem OwnCircuit.below (h : OwnCircuit lo hi w v0 v1 n0 n1 z0 z1) (hb : Below w.heap.size w w1) : OwnCircuit lo hi w1 v0 v1 n0 n1 z0 z1 := ⟨h.o0.below hb, h.o1.below hb, h.a01⟩
theorem OwnCircuit.alloc (h : OwnCircuit lo hi w v0 v1 n0 n1 z0 z1) (o : Obj) : OwnCircuit lo hi (w.alloc o) v0 v1 n0 n1 z0 z1 := h.below ((Below.refl _ _).alloc (Nat.le_refl _) _)
theorem OwnCircuit.wide (h : OwnCircuit lo hi w v0 v1 n0 n1 z0 z1) (h1 : lo' ≤ lo) (h2 : hi ≤ hi') : OwnCircuit lo' hi' w v0 v1 n0 n1 z0 z1 := ⟨h.o0.wide h1 h2, h.o1.wide h1 h2, h.a01⟩
theorem OwnCircuit.drew (h : OwnCircuit lo hi w v0 v1 n0 n1 z0 z1) : OwnCircuit lo hi w.drew v0 v1 n0 n1 z0 z1 := ⟨h.o0.drew, h.o1.drew, h.a01⟩
theorem OwnCircuit.drewN (h : OwnCircuit lo hi w v0 v1 n0 n1 z0 z1) (k : Nat) : OwnCircuit lo hi (w.drewN k) v0 v1 n0 n1 z0 z1 := ⟨h.o0.drewN k, h.o1.drewN k, h.a01⟩
theorem OwnCircuit.setFar {g i : Nat} (h : OwnCircuit lo hi w v0 v1 n0 n1 z0 z1) (hg : g < lo) (u : Value) : OwnCircuit lo hi (w.setCell ⟨g, i, none⟩ u) v0 v1 n0 n1 z0 z1 := ⟨h.o0.setFar hg u, h.o1.setFar hg u, h.a01⟩
theorem OwnCircuit.setFar' {g i : Nat} (h : OwnCircuit lo hi w v0 v1 n0 n1 z0 z1) (hg : hi ≤ g) (u : Value) : OwnCircuit lo hi (w.setCell ⟨g, i, none⟩ u) v0 v1 n0 n1 z0 z1 := ⟨h.o0.setFar' hg u, h.o1.setFar' hg u, h.a01⟩
theorem OwnCircuit.nil (lo hi : Nat) (w : World) : OwnCircuit lo hi w (.slice none 0 0) (.slice none 0 0) 0 0 [] [] := ⟨OwnA.nil _ _ _ _, OwnA.nil _ _ _ _, apart.nil _ _ _⟩
end
/-- A struct Circuit in new memory. -/
def Post_Circuit (z0 : List Int) (z1 : List Int) (w : World) (e : Ending) (w' : World) : Prop :=
  ∃ (A0 A1 : Option Addr) (n0 n1 c0 c1 : Nat), e = .returned (.agg #[.slice A0 n0 c0, .slice A1 n1 c1]) ∧ OwnCircuit w.heap.size w'.heap.size w' (.slice A0 n0 c0) (.slice A1 n1 c1) n0 n1 z0 z1 ∧ Below w.heap.size w w'
/-- A struct Circuit that a call made, and the box that holds it: all new since W. -/
structure BxdCircuit (W wx : World) (p lo hi : Nat) (A0 A1 : Option Addr) (n0 n1 c0 c1 : Nat) (z0 : List Int) (z1 : List Int) : Prop where
  own : OwnCircuit lo hi wx (.slice A0 n0 c0) (.slice A1 n1 c1) n0 n1 z0 z1
  box : wx.heap[p]? = some (.cells #[.slice A0 n0 c0, .slice A1 n1 c1] 31 (0, 0))
  at_ : W.heap.size ≤ lo ∧ hi ≤ wx.heap.size ∧ W.heap.size ≤ p ∧ p < wx.heap.size ∧ (p < lo ∨ hi ≤ p)
  low : Below W.heap.size W wx
section
variable {W w w' : World} {A0 A1 : Option Addr} {n0 n1 c0 c1 p : Nat} {z0 z1 : List Int} {u : Array Value}
theorem BxdCircuit.last (o : OwnCircuit w.heap.size w'.heap.size w' (.slice A0 n0 c0) (.slice A1 n1 c1) n0 n1 z0 z1) (hl : Below W.heap.size W w') (hw : W.heap.size ≤ w.heap.size) :
    BxdCircuit W (w'.alloc (.cells #[.slice A0 n0 c0, .slice A1 n1 c1] 31)) w'.heap.size w.heap.size w'.heap.size A0 A1 n0 n1 c0 c1 z0 z1 :=
  ⟨o.alloc _, heap_alloc_new w' _, ⟨hw, by simp, hl.size, by simp, .inr (Nat.le_refl _)⟩, hl.alloc hl.size _⟩
theorem BxdCircuit.early (o : OwnCircuit w.heap.size w'.heap.size w' (.slice A0 n0 c0) (.slice A1 n1 c1) n0 n1 z0 z1) (hl : Below W.heap.size W w') (hw : W.heap.size ≤ w.heap.size) (hb : w'.heap[p]? = some (.cells #[.slice none 0 0, .slice none 0 0] 31 (0, 0))) (hp : p < w.heap.size) (hW : W.heap.size ≤ p) :
    BxdCircuit W ((w'.setCell ⟨p, 0, none⟩ (.slice A0 n0 c0)).setCell ⟨p, 1, none⟩ (.slice A1 n1 c1)) p w.heap.size w'.heap.size A0 A1 n0 n1 c0 c1 z0 z1 :=
  ⟨((o.setFar (g := p) (i := 0) hp _).setFar (g := p) (i := 1) hp _), (heap_set (i := 1) (heap_set (i := 0) hb (.slice A0 n0 c0)) (.slice A1 n1 c1)), ⟨hw, by simp, hW, by have := heap_lt hb; simpa using this, .inl hp⟩, ((hl.setCell (p := ⟨p, 0, none⟩) hW _).setCell (p := ⟨p, 1, none⟩) hW _)⟩
end
end Go.Proofs.YtjfmcdfgccdmpaaGreat
