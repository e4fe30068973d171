/- The draws of programs: a block with loops inside, a program. No condition. And what goes with it. -/
import Derived.Test.YtbbdmgomcpmhpaaProg
import Derived.Test.YtbbdmgomcpmhpaaStD
import Derived.Test.YtbbdmgomcpmhpaaB2
import Derived.Test.YtbbdmgomcpmhpaaAppC
namespace Go.Proofs.Ytbbdmgomcpmhpaa
open Go Go.RowKit
theorem OwnS.app {base n m : Nat} {w : World} {v : Value} {ss ts : List St} (h : w.ownsRow base 56 6 v (n + m) (intVals (flat ss) ++ intVals (flat ts))) : OwnS base w v (n + m) (ss ++ ts) := by
  unfold OwnS
  rw [flat_append]
  simpa [intVals] using h
theorem OwnS.one {base n : Nat} {w : World} {v : Value} {ss : List St} {op d a b c m : Int} (h : w.ownsRow base 56 6 v (n + 1) (intVals (flat ss) ++ (#[Value.int .i64 op, .int .i64 d, .int .i64 a, .int .i64 b, .int .i64 c, .int .i64 m] : Array Value).toList)) : OwnS base w v (n + 1) (ss ++ [⟨op, d, a, b, c, m⟩]) :=
  OwnS.app (ts := [⟨op, d, a, b, c, m⟩]) h
theorem OwnS.len {base n : Nat} {w : World} {v : Value} {ss : List St} (h : OwnS base w v n ss) : ss.length = n := by have := h.1; rw [intVals_length, flat_length] at this; omega
/-- A list of statements that was drawn. -/
def DrawnSS (T : TypeId) (B g : Nat) (P : List St → Prop) (w : World) (e : Ending) (w' : World) : Prop :=
  ∃ (A : Option Addr) (m c : Nat) (ss : List St), e = .returned (.slice A m c) ∧ ss.length = m ∧ P ss ∧ OwnS w.heap.size w' (.slice A m c) m ss ∧ RunD T B g w w'
/-- What the rounds of a block have laid so far. -/
structure Rnd (h M k : Nat) (ss : List St) : Prop where
  blk : Blk8 h ss
  l1 : ss.length ≤ M * k
  l2 : ss.length ≤ k + 18
theorem Rnd.nil (h M : Nat) : Rnd h M 0 [] := ⟨Blk8.nil h, by simp, by simp⟩
theorem Rnd.one {h M k : Nat} {ss : List St} {s : St} (r : Rnd h M k ss) (hs : plainSt s) (hM : 1 ≤ M) : Rnd h M (k + 1) (ss ++ [s]) := by
  obtain ⟨ho, hl, hd, ha, hb, hc⟩ := hs
  refine ⟨r.blk.app ⟨Bal.one ho hl, smallAll.one ⟨ho, hd, ha, hb, hc, fun e => by omega⟩⟩, ?_, ?_⟩
  · have := r.l1
    rw [Nat.mul_succ, List.length_append]
    simp only [List.length_cons, List.length_nil]
    omega
  · have := r.l2
    rw [List.length_append]
    simp only [List.length_cons, List.length_nil]
    omega
theorem Rnd.loop {h M k : Nat} {ss ts : List St} {n : Int} (r : Rnd (h + 1) M k ss) (hs : Blk8 h ts) (hn : 0 ≤ n ∧ n < 3) (hl : ss.length < 12) (hM : ts.length + 2 ≤ M) (hM2 : M ≤ 10) :
    Rnd (h + 1) M (k + 1) (((ss ++ [loopSt (1 + n)]) ++ ts) ++ [endSt]) := by
  refine ⟨r.blk.loop hs hn, ?_, ?_⟩
  · have := r.l1
    rw [Nat.mul_succ]
    simp only [List.length_append, List.length_cons, List.length_nil]
    omega
  · have h1 := r.l1
    have h2 := r.l2
    simp only [List.length_append, List.length_cons, List.length_nil]
    have hk : k = 0 ∨ k = 1 ∨ 2 ≤ k := by omega
    rcases hk with rfl | rfl | hk <;> omega
end Go.Proofs.Ytbbdmgomcpmhpaa

namespace Go.Proofs.Ytbbdmgomcpmhpaa
open Go Go.RowKit
theorem len_cast {ss : List St} {n : Nat} (h : ss.length = n) : ss.length = n := h
theorem DrawnSS.mono {T : TypeId} {B g : Nat} {P Q : List St → Prop} {w : World} {e : Ending} {w' : World} (h : DrawnSS T B g P w e w') (f : ∀ ss, P ss → Q ss) : DrawnSS T B g Q w e w' := by
  obtain ⟨A, m, c, ss, he, hl, hp, ho, hr⟩ := h
  exact ⟨A, m, c, ss, he, hl, f ss hp, ho, hr⟩
end Go.Proofs.Ytbbdmgomcpmhpaa

namespace Go.Proofs.Ytbbdmgomcpmhpaa
open Go Go.RowKit
theorem prog_of {n : Nat} {ss : List St} {x : Int} (h : Rnd 2 10 n ss) (hn : n ≤ 8) (hx : 0 ≤ x ∧ x < 4) :
    DrawnP ((([⟨2, 0, 0, 0, 0, 0⟩, ⟨2, 1, 1, 0, 0, 0⟩] ++ ss) ++ [⟨11, 0, x, 0, 0, 0⟩])) := by
  have o1 : (⟨2, 0, 0, 0, 0, 0⟩ : St).ok := by simp [St.ok, okI, isReg]
  have o2 : (⟨2, 1, 1, 0, 0, 0⟩ : St).ok := by simp [St.ok, okI, isReg]
  have o3 : (⟨11, 0, x, 0, 0, 0⟩ : St).ok := by simp [St.ok, okI, isReg]; omega
  have s1 : smallSt ⟨2, 0, 0, 0, 0, 0⟩ := ⟨o1, by simp, by simp, by simp, by simp, fun h => by simp at h⟩
  have s2 : smallSt ⟨2, 1, 1, 0, 0, 0⟩ := ⟨o2, by simp, by simp, by simp, by simp, fun h => by simp at h⟩
  have s3 : smallSt ⟨11, 0, x, 0, 0, 0⟩ := ⟨o3, by simp, by simp; omega, by simp, by simp, fun h => by simp at h⟩
  have hl := h.l2
  refine ⟨?_, ?_, ?_, ?_, ⟨ss ++ [⟨11, 0, x, 0, 0, 0⟩], rfl⟩, ⟨_, _, rfl⟩⟩
  · exact ((Bal.app (a := [⟨2, 0, 0, 0, 0, 0⟩]) (Bal.one o1 (by simp)) (Bal.one o2 (by simp))).app h.blk.bal).app (Bal.one o3 (by simp))
  · exact ((smallAll.app (a := [⟨2, 0, 0, 0, 0, 0⟩]) (smallAll.one s1) (smallAll.one s2)).app h.blk.small).app (smallAll.one s3)
  · simp
  · simp; omega
/-- A row that is laid whole, elements of any size. -/
theorem own_whole_n (w : World) (cur : Array Value) (e : TypeId) (base cap size : Nat) (hb : base ≤ w.heap.size) (hm : cap ≤ maxLen) (hs : cur.size = cap * size) :
    (w.alloc (.cells cur e)).ownsRow base e size (.slice (some ⟨w.heap.size, 0, none⟩) cap cap) cap cur.toList :=
  ⟨by simp [hs], .inr ⟨w.heap.size, cap, cur, rfl, hb, heap_alloc_new w _, Nat.le_refl _, hm, by omega, List.take_of_length_le (by simp [hs])⟩⟩
/-- A program that was drawn, in new memory. -/
def NewP (w : World) (e : Ending) (w' : World) : Prop :=
  ∃ (A : Option Addr) (m c : Nat) (ss : List St), e = .returned (.slice A m c) ∧ ss.length = m ∧ DrawnP ss ∧ OwnSt w.heap.size w'.heap.size w' (.slice A m c) m ss ∧ Below w.heap.size w w'
end Go.Proofs.Ytbbdmgomcpmhpaa
