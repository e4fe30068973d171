/- FlowStep: the model's. No condition. And what goes with it. -/
import Derived.Test.YtlaidjibcpfnjaaProg
import Derived.Test.YtlaidjibcpfnjaaF1
import Derived.Test.YtlaidjibcpfnjaaSFlow
import Derived.Test.YtlaidjibcpfnjaaB1
import Derived.Test.YtlaidjibcpfnjaaStmtK
import Derived.Test.YtlaidjibcpfnjaaB2
namespace Go.Proofs.Ytlaidjibcpfnjaa
open Go Go.RowKit
/-- A flow in new memory, both its slices made as slices of ints. -/
def NewFlow (z0 z1 : List Int) (w : World) (e : Ending) (w' : World) : Prop :=
  ∃ (A0 A1 : Option Addr) (n0 n1 c0 c1 : Nat), e = .returned (.agg #[.slice A0 n0 c0, .slice A1 n1 c1]) ∧ OwnI w.heap.size w'.heap.size w' (.slice A0 n0 c0) n0 z0 ∧ OwnI w.heap.size w'.heap.size w' (.slice A1 n1 c1) n1 z1 ∧ apart (.slice A0 n0 c0) (.slice A1 n1 c1) ∧ Below w.heap.size w w'
end Go.Proofs.Ytlaidjibcpfnjaa

namespace Go.Proofs.Ytlaidjibcpfnjaa
open Go Go.RowKit
/-- A number of a row of the call's own is set. -/
theorem OwnI.set {lo hi n c g : Nat} {w : World} {zs : List Int} (h : OwnI lo hi w (.slice (some ⟨g, 0, none⟩) n c) n zs) (j : Nat) (x : Int) : OwnI lo hi (w.setCell ⟨g, j, none⟩ (.int .i64 x)) (.slice (some ⟨g, 0, none⟩) n c) n (zs.set j x) := by
  refine ⟨?_, h.top⟩
  have := (h.own.stored j (.int .i64 x)).1
  simpa [intVals, List.map_set] using this
theorem OwnI.other {lo hi lo' hi' n m c g : Nat} {w : World} {v : Value} {zs ys : List Int} (h : OwnI lo hi w v m ys) (k : OwnI lo' hi' w (.slice (some ⟨g, 0, none⟩) n c) n zs) (ha : apart v (.slice (some ⟨g, 0, none⟩) n c)) (j : Nat) (x : Int) : OwnI lo hi (w.setCell ⟨g, j, none⟩ (.int .i64 x)) v m ys :=
  h.keep (u := .slice (some ⟨g, 0, none⟩) n c) (k.own.stored j (.int .i64 x)).2 ha
theorem OwnI.at_ {lo hi n c g : Nat} {w : World} {zs : List Int} (h : OwnI lo hi w (.slice (some ⟨g, 0, none⟩) n c) n zs) {j : Nat} (hj : j < n) : w.cell? ⟨g, j, none⟩ = some (.int .i64 (zs.getD j 0)) ∧ w.frozen? ⟨g, j, none⟩ = false := by
  have hl := h.len
  refine ⟨?_, h.own.frozenAt j⟩
  rw [h.own.cellAt j (by omega)]
  simp [intVals, List.getElem?_map, List.getD_eq_getElem?_getD, List.getElem?_eq_getElem (show j < zs.length by omega)]
theorem Ints.far {w : World} {g i : Nat} {A : Option Addr} {zs : List Int} {v : Value} (h : Ints w A zs) (hne : ∀ x, A = some x → x.block ≠ g) : Ints (w.setCell ⟨g, i, none⟩ v) A zs := fun h0 => by
  obtain ⟨b, o, e, hl, hc⟩ := h h0
  exact ⟨b, o, e, by simpa using hl, fun j hj => far_one (hc j hj) (show b ≠ g from hne _ e) v⟩
/-- Not performed: the statement is not valid, or the flow has not eight registers, or it is a loop or an end. -/
def idle (rs : List Int) (op d a b c n : Int) : Prop := ¬ okI op d a b c n ∨ rs.length ≠ 8 ∨ 11 < op
end Go.Proofs.Ytlaidjibcpfnjaa
