/- A table of registers beside a circuit that is being built: its rows are wires and may share memory; none of it is a part of the circuit, no row lies in the table. No condition. -/
import Derived.Test.YtkcknejkldhmaaaProg
import Derived.Test.YtkcknejkldhmaaaW2
import Derived.Deep.RegionHeld
namespace Go.Proofs.Ytkcknejkldhmaaa
open Go Go.RowKit
/-- Wires in memory that is no part of the circuit, nor of block b. -/
def Far (b g : Nat) (v : Value) (w : World) (A : Option Addr) (us : List Int) : Prop :=
  0 < us.length → ∃ k o, A = some ⟨k, o, none⟩ ∧ k ≠ b ∧ (k < w.heap.size ∧ k ≠ g ∧ v.ownBlock ≠ some k) ∧ ∀ j, j < us.length → w.cell? ⟨k, o + j, none⟩ = some (.int .i64 (us.getD j 0))
section
variable {b B B' g n k c m : Nat} {w w1 : World} {v v' v1 u : Value} {us z : List Int} {A : Option Addr}
theorem Far.nil (b g : Nat) (v : Value) (w : World) (A : Option Addr) : Far b g v w A [] := fun h => absurd h (by simp)
theorem Far.off (h : Far b g v w A us) : Off g v w A us := fun h0 => by
  obtain ⟨k, o, e, _, h1, hc⟩ := h h0
  exact ⟨k, o, e, h1, hc⟩
theorem Far.turn (h : Far b g v w A us) (t : Turn g v w v' w1) : Far b g v' w1 A us := fun h0 => by
  obtain ⟨k, o, e, hn, ⟨h1, h2, h3⟩, hc⟩ := h h0
  refine ⟨k, o, e, hn, ⟨Nat.lt_of_lt_of_le h1 t.size, h2, fun e => ?_⟩, fun j hj => (World.cell?_of_block (t.block k h1 h2 h3)).trans (hc j hj)⟩
  rcases t.at_ k e with e1 | e1
  · exact h3 e1
  · omega
theorem Far.below (h : Far b g v w A us) (hb : Below w.heap.size w w1) : Far b g v w1 A us := h.turn ((Turn.refl g v w).below hb)
theorem Far.set (h : Far b g v w A us) (i : Nat) (x : Value) : Far b g v (w.setCell ⟨b, i, none⟩ x) A us := fun h0 => by
  obtain ⟨k, o, e, hn, ⟨h1, h2, h3⟩, hc⟩ := h h0
  exact ⟨k, o, e, hn, ⟨by simpa using h1, h2, h3⟩, fun j hj => (World.cell?_setCell_far w ⟨b, i, none⟩ ⟨k, o + j, none⟩ x (fun e => hn e.symm)).trans (hc j hj)⟩
/-- A list that a builder made behind the table. -/
theorem Wl.far (h : Wl g v B w (.slice A k c) k us) (hb : b < B) : Far b g v w A us := fun h0 => by
  obtain ⟨q, o, e, hl, hc⟩ := Ints.of_own h.own h0
  subst e
  have := (h.own.lt q rfl).1
  exact ⟨q, o, rfl, by omega, ⟨hl, fun e => h.ne (by rw [← e]; rfl), fun e => h.ap q rfl e⟩, hc⟩
/-- A list that was there before the table. -/
theorem Wl.near (h : Wl g v B w (.slice A k c) k us) (hb : ∀ q, A = some ⟨q, 0, none⟩ → q ≠ b) : Far b g v w A us := fun h0 => by
  obtain ⟨q, o, e, hl, hc⟩ := Ints.of_own h.own h0
  have e2 : ∃ q', A = some ⟨q', 0, none⟩ := by
    rcases h.own.2 with ⟨e1, _⟩ | ⟨q', _, _, e1, _⟩
    · injection e1 with e1
      rw [e1] at e
      cases e
    · injection e1 with e1
      exact ⟨q', e1⟩
  obtain ⟨q', e2⟩ := e2
  subst e2
  injection e with e
  injection e with e3 e4
  subst e3 e4
  exact ⟨q', 0, rfl, hb q' rfl, ⟨hl, fun e => h.ne (by rw [← e]; rfl), fun e => h.ap q' rfl e⟩, hc⟩
theorem Off.far {q o : Nat} (h : Off g v w (some ⟨q, o, none⟩) us) (hb : q ≠ b) : Far b g v w (some ⟨q, o, none⟩) us := fun h0 => by
  obtain ⟨k, p, e, h1, hc⟩ := h h0
  injection e with e
  injection e with e1 e2
  subst e1 e2
  exact ⟨q, o, rfl, hb, h1, hc⟩
end
theorem gV_ne {us : List Value} {j k : Nat} (h : k ≠ j) (u : Value) : (us.set k u).getD j undef = us.getD j undef := by
  rw [List.getD_eq_getElem?_getD, List.getD_eq_getElem?_getD, List.getElem?_set_ne h]
theorem gV_eq {us : List Value} {k : Nat} (h : k < us.length) (u : Value) : (us.set k u).getD k undef = u := by
  rw [List.getD_eq_getElem?_getD, List.getElem?_set_self h]; rfl
theorem gL_ne {rs : List (List Int)} {j k : Nat} (h : k ≠ j) (u : List Int) : (rs.set k u).getD j [] = rs.getD j [] := by
  rw [List.getD_eq_getElem?_getD, List.getD_eq_getElem?_getD, List.getElem?_set_ne h]
theorem gL_eq {rs : List (List Int)} {k : Nat} (h : k < rs.length) (u : List Int) : (rs.set k u).getD k [] = u := by
  rw [List.getD_eq_getElem?_getD, List.getElem?_set_self h]; rfl
/-- The table: n slices in block b, each of them a row of wires. -/
structure Regs (b g : Nat) (v : Value) (w : World) (n c : Nat) (us : List Value) (rs : List (List Int)) : Prop where
  own : w.ownsRow b 25 1 (.slice (some ⟨b, 0, none⟩) n c) n us
  ne : b ≠ g
  ap : v.ownBlock ≠ some b
  len : rs.length = n
  row : ∀ j, j < n → ∃ A d, us.getD j undef = .slice A (rs.getD j []).length d ∧ Far b g v w A (rs.getD j [])
section
variable {b B B' g n k c m j : Nat} {w w1 : World} {v v' v1 u : Value} {vs : List Value} {rs : List (List Int)} {us z : List Int} {A : Option Addr}
theorem Regs.lt (h : Regs b g v w n c vs rs) : b < w.heap.size := (h.own.lt b rfl).2
theorem Regs.ulen (h : Regs b g v w n c vs rs) : vs.length = n := by have := h.own.1; omega
theorem Regs.turn (h : Regs b g v w n c vs rs) (t : Turn g v w v' w1) : Regs b g v' w1 n c vs rs := by
  have hl := h.lt
  refine ⟨⟨h.own.1, ?_⟩, h.ne, fun e => ?_, h.len, fun j hj => ?_⟩
  · rcases h.own.2 with e | ⟨q, cap, cur, e, hb, hh, r⟩
    · exact .inl e
    · have eq : q = b := by injection e with e; injection e with e; injection e with e; exact e.symm
      subst eq
      exact .inr ⟨q, cap, cur, e, hb, (t.block q hl h.ne h.ap).trans hh, r⟩
  · rcases t.at_ b e with e1 | e1
    · exact h.ap e1
    · omega
  · obtain ⟨A, d, e, hf⟩ := h.row j hj
    exact ⟨A, d, e, hf.turn t⟩
theorem Regs.below (h : Regs b g v w n c vs rs) (hb : Below w.heap.size w w1) : Regs b g v w1 n c vs rs := h.turn ((Turn.refl g v w).below hb)
theorem Regs.alloc (h : Regs b g v w n c vs rs) (o : Obj) : Regs b g v (w.alloc o) n c vs rs := h.below (below_alloc w o)
theorem Regs.drew (h : Regs b g v w n c vs rs) : Regs b g v w.drew n c vs rs := ⟨h.own, h.ne, h.ap, h.len, h.row⟩
theorem Regs.drewN (h : Regs b g v w n c vs rs) (i : Nat) : Regs b g v (w.drewN i) n c vs rs := ⟨h.own, h.ne, h.ap, h.len, h.row⟩
/-- Reading a register. -/
theorem Regs.at_ (h : Regs b g v w n c vs rs) (hj : j < n) : ∃ A d, w.cell? ⟨b, j, none⟩ = some (.slice A (rs.getD j []).length d) ∧ w.frozen? ⟨b, j, none⟩ = false ∧ Far b g v w A (rs.getD j []) := by
  obtain ⟨A, d, e, hf⟩ := h.row j hj
  refine ⟨A, d, ?_, h.own.frozenAt j, hf⟩
  have hl := h.ulen
  rw [h.own.cellAt j (by omega), ← e, List.getD_eq_getElem?_getD, List.getElem?_eq_getElem (by omega)]
  rfl
/-- Setting a register. -/
theorem Regs.set (h : Regs b g v w n c vs rs) (hj : j < n) {d : Nat} (hf : Far b g v w A us) : Regs b g v (w.setCell ⟨b, j, none⟩ (.slice A us.length d)) n c (vs.set j (.slice A us.length d)) (rs.set j us) := by
  have hu := h.ulen
  have hl := h.len
  refine ⟨(h.own.stored j _).1, h.ne, h.ap, by rw [List.length_set]; exact h.len, fun i hi => ?_⟩
  by_cases e : j = i
  · subst e
    rw [gV_eq (by omega), gL_eq (by omega)]
    exact ⟨A, d, rfl, hf.set j _⟩
  · rw [gV_ne e, gL_ne e]
    obtain ⟨A', d', e', hf'⟩ := h.row i hi
    exact ⟨A', d', e', hf'.set j _⟩
/-- What setting a register leaves of the circuit, of a list, and of what was there before. -/
theorem Regs.grown (h : Regs b g v w n c vs rs) (x : Value) : w.grownBy (w.setCell ⟨b, j, none⟩ x) (some b) := (h.own.stored j x).2
theorem Regs.cir (h : Regs b g v w n c vs rs) (hc : Cir B g w v v1 m z) (x : Value) : Cir B g (w.setCell ⟨b, j, none⟩ x) v v1 m z :=
  hc.grown (u := .slice (some ⟨b, 0, none⟩) n c) (h.grown x) (fun e => h.ne (by injection e)) (fun q e e' => h.ap (by rw [e', ← e]; rfl))
theorem Regs.keep (h : Regs b g v w n c vs rs) (x : Value) {g' : Nat} {v'' : Value} {w0 : World} (t : Turn g' v'' w0 v' w) (hb : w0.heap.size ≤ b) : Turn g' v'' w0 v' (w.setCell ⟨b, j, none⟩ x) :=
  t.grown (u := .slice (some ⟨b, 0, none⟩) n c) (h.grown x) (fun k e => by have e1 : b = k := by injection e
                                                                           omega)
theorem Regs.list (h : Regs b g v w n c vs rs) (x : Value) (hw : Wl g v B w u k us) (hu : u.ownBlock ≠ some b) : Wl g v B (w.setCell ⟨b, j, none⟩ x) u k us :=
  ⟨hw.own.kept (h.grown x) (.inr hu), hw.ne, hw.ap⟩
/-- A table of one row eight times. -/
theorem Regs.same (ho : w.ownsRow b 25 1 (.slice (some ⟨b, 0, none⟩) n c) n (List.replicate n (.slice A us.length m))) (hn : b ≠ g) (ha : v.ownBlock ≠ some b) (hf : Far b g v w A us) : Regs b g v w n c (List.replicate n (.slice A us.length m)) (List.replicate n us) := by
  refine ⟨ho, hn, ha, by simp, fun j hj => ?_⟩
  have e1 : (List.replicate n us).getD j [] = us := by
    rw [List.getD_eq_getElem?_getD, List.getElem?_replicate, if_pos hj]
    rfl
  have e2 : (List.replicate n (Value.slice A us.length m)).getD j undef = .slice A us.length m := by
    rw [List.getD_eq_getElem?_getD, List.getElem?_replicate, if_pos hj]
    rfl
  rw [e1, e2]
  exact ⟨A, m, rfl, hf⟩
end
end Go.Proofs.Ytkcknejkldhmaaa
