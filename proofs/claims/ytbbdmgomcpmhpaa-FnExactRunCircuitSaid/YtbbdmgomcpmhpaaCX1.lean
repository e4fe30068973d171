/- A table of registers beside a circuit that is being built: its rows are wires and may share memory; none of it is a part of the circuit, no row lies in the table. No condition. And what goes with it. -/
import Derived.Test.YtbbdmgomcpmhpaaProg
import Derived.Test.YtbbdmgomcpmhpaaW2
import Derived.Deep.RegionHeld
import Derived.Test.YtbbdmgomcpmhpaaW1
namespace Go.Proofs.Ytbbdmgomcpmhpaa
open Go Go.RowKit
/-- Wires in memory that is no part of the circuit, nor of block b. -/
def Far (b g : Nat) (v : Value) (w : World) (A : Option Addr) (us : List Int) : Prop :=
  0 < us.length → ∃ k o, A = some ⟨k, o, none⟩ ∧ k ≠ b ∧ (k < w.heap.size ∧ k ≠ g ∧ v.ownBlock ≠ some k) ∧ ∀ j, j < us.length → w.cell? ⟨k, o + j, none⟩ = some (.int .i64 (us.getD j 0))
section
variable {b B B' g n k c m : Nat} {w w1 : World} {v v' v1 u : Value} {us z : List Int} {A : Option Addr}
theorem Far.nil (b g : Nat) (v : Value) (w : World) (A : Option Addr) : Far b g v w A [] := fun h => absurd h (by simp)
theorem Far.off (h : Far b g v w A us) : Off g v w A us := fun h0 => by
  obtain ⟨k, o, e, _, h1, hc⟩ := h h0
  exact ⟨k, o, e, h1, hc⟩
theorem Far.turn (h : Far b g v w A us) (t : Turn g v w v' w1) : Far b g v' w1 A us := fun h0 => by
  obtain ⟨k, o, e, hn, ⟨h1, h2, h3⟩, hc⟩ := h h0
  refine ⟨k, o, e, hn, ⟨Nat.lt_of_lt_of_le h1 t.size, h2, fun e => ?_⟩, fun j hj => (World.cell?_of_block (t.block k h1 h2 h3)).trans (hc j hj)⟩
  rcases t.at_ k e with e1 | e1
  · exact h3 e1
  · omega
theorem Far.below (h : Far b g v w A us) (hb : Below w.heap.size w w1) : Far b g v w1 A us := h.turn ((Turn.refl g v w).below hb)
theorem Far.set (h : Far b g v w A us) (i : Nat) (x : Value) : Far b g v (w.setCell ⟨b, i, none⟩ x) A us := fun h0 => by
  obtain ⟨k, o, e, hn, ⟨h1, h2, h3⟩, hc⟩ := h h0
  exact ⟨k, o, e, hn, ⟨by simpa using h1, h2, h3⟩, fun j hj => (World.cell?_setCell_far w ⟨b, i, none⟩ ⟨k, o + j, none⟩ x (fun e => hn e.symm)).trans (hc j hj)⟩
/-- A list that a builder made behind the table. -/
theorem Wl.far (h : Wl g v B w (.slice A k c) k us) (hb : b < B) : Far b g v w A us := fun h0 => by
  obtain ⟨q, o, e, hl, hc⟩ := Ints.of_own h.own h0
  subst e
  have := (h.own.lt q rfl).1
  exact ⟨q, o, rfl, by omega, ⟨hl, fun e => h.ne (by rw [← e]; rfl), fun e => h.ap q rfl e⟩, hc⟩
/-- A list that was there before the table. -/
theorem Wl.near (h : Wl g v B w (.slice A k c) k us) (hb : ∀ q, A = some ⟨q, 0, none⟩ → q ≠ b) : Far b g v w A us := fun h0 => by
  obtain ⟨q, o, e, hl, hc⟩ := Ints.of_own h.own h0
  have e2 : ∃ q', A = some ⟨q', 0, none⟩ := by
    rcases h.own.2 with ⟨e1, _⟩ | ⟨q', _, _, e1, _⟩
    · injection e1 with e1
      rw [e1] at e
      cases e
    · injection e1 with e1
      exact ⟨q', e1⟩
  obtain ⟨q', e2⟩ := e2
  subst e2
  injection e with e
  injection e with e3 e4
  subst e3 e4
  exact ⟨q', 0, rfl, hb q' rfl, ⟨hl, fun e => h.ne (by rw [← e]; rfl), fun e => h.ap q' rfl e⟩, hc⟩
theorem Off.far {q o : Nat} (h : Off g v w (some ⟨q, o, none⟩) us) (hb : q ≠ b) : Far b g v w (some ⟨q, o, none⟩) us := fun h0 => by
  obtain ⟨k, p, e, h1, hc⟩ := h h0
  injection e with e
  injection e with e1 e2
  subst e1 e2
  exact ⟨q, o, rfl, hb, h1, hc⟩
end
theorem gV_ne {us : List Value} {j k : Nat} (h : k ≠ j) (u : Value) : (us.set k u).getD j undef = us.getD j undef := by
  rw [List.getD_eq_getElem?_getD, List.getD_eq_getElem?_getD, List.getElem?_set_ne h]
theorem gV_eq {us : List Value} {k : Nat} (h : k < us.length) (u : Value) : (us.set k u).getD k undef = u := by
  rw [List.getD_eq_getElem?_getD, List.getElem?_set_self h]; rfl
theorem gL_ne {rs : List (List Int)} {j k : Nat} (h : k ≠ j) (u : List Int) : (rs.set k u).getD j [] = rs.getD j [] := by
  rw [List.getD_eq_getElem?_getD, List.getD_eq_getElem?_getD, List.getElem?_set_ne h]
theorem gL_eq {rs : List (List Int)} {k : Nat} (h : k < rs.length) (u : List Int) : (rs.set k u).getD k [] = u := by
  rw [List.getD_eq_getElem?_getD, List.getElem?_set_self h]; rfl
/-- The table: n slices in block b, each of them a row of wires. -/
structure Regs (b g : Nat) (v : Value) (w : World) (n c : Nat) (us : List Value) (rs : List (List Int)) : Prop where
  own : w.ownsRow b 25 1 (.slice (some ⟨b, 0, none⟩) n c) n us
  ne : b ≠ g
  ap : v.ownBlock ≠ some b
  len : rs.length = n
  row : ∀ j, j < n → ∃ A d, us.getD j undef = .slice A (rs.getD j []).length d ∧ Far b g v w A (rs.getD j [])
section
variable {b B B' g n k c m j : Nat} {w w1 : World} {v v' v1 u : Value} {vs : List Value} {rs : List (List Int)} {us z : List Int} {A : Option Addr}
theorem Regs.lt (h : Regs b g v w n c vs rs) : b < w.heap.size := (h.own.lt b rfl).2
theorem Regs.ulen (h : Regs b g v w n c vs rs) : vs.length = n := by have := h.own.1; omega
theorem Regs.turn (h : Regs b g v w n c vs rs) (t : Turn g v w v' w1) : Regs b g v' w1 n c vs rs := by
  have hl := h.lt
  refine ⟨⟨h.own.1, ?_⟩, h.ne, fun e => ?_, h.len, fun j hj => ?_⟩
  · rcases h.own.2 with e | ⟨q, cap, cur, e, hb, hh, r⟩
    · exact .inl e
    · have eq : q = b := by injection e with e; injection e with e; injection e with e; exact e.symm
      subst eq
      exact .inr ⟨q, cap, cur, e, hb, (t.block q hl h.ne h.ap).trans hh, r⟩
  · rcases t.at_ b e with e1 | e1
    · exact h.ap e1
    · omega
  · obtain ⟨A, d, e, hf⟩ := h.row j hj
    exact ⟨A, d, e, hf.turn t⟩
theorem Regs.below (h : Regs b g v w n c vs rs) (hb : Below w.heap.size w w1) : Regs b g v w1 n c vs rs := h.turn ((Turn.refl g v w).below hb)
theorem Regs.alloc (h : Regs b g v w n c vs rs) (o : Obj) : Regs b g v (w.alloc o) n c vs rs := h.below (below_alloc w o)
theorem Regs.drew (h : Regs b g v w n c vs rs) : Regs b g v w.drew n c vs rs := ⟨h.own, h.ne, h.ap, h.len, h.row⟩
theorem Regs.drewN (h : Regs b g v w n c vs rs) (i : Nat) : Regs b g v (w.drewN i) n c vs rs := ⟨h.own, h.ne, h.ap, h.len, h.row⟩
/-- Reading a register. -/
theorem Regs.at_ (h : Regs b g v w n c vs rs) (hj : j < n) : ∃ A d, w.cell? ⟨b, j, none⟩ = some (.slice A (rs.getD j []).length d) ∧ w.frozen? ⟨b, j, none⟩ = false ∧ Far b g v w A (rs.getD j []) := by
  obtain ⟨A, d, e, hf⟩ := h.row j hj
  refine ⟨A, d, ?_, h.own.frozenAt j, hf⟩
  have hl := h.ulen
  rw [h.own.cellAt j (by omega), ← e, List.getD_eq_getElem?_getD, List.getElem?_eq_getElem (by omega)]
  rfl
/-- Setting a register. -/
theorem Regs.set (h : Regs b g v w n c vs rs) (hj : j < n) {d : Nat} (hf : Far b g v w A us) : Regs b g v (w.setCell ⟨b, j, none⟩ (.slice A us.length d)) n c (vs.set j (.slice A us.length d)) (rs.set j us) := by
  have hu := h.ulen
  have hl := h.len
  refine ⟨(h.own.stored j _).1, h.ne, h.ap, by rw [List.length_set]; exact h.len, fun i hi => ?_⟩
  by_cases e : j = i
  · subst e
    rw [gV_eq (by omega), gL_eq (by omega)]
    exact ⟨A, d, rfl, hf.set j _⟩
  · rw [gV_ne e, gL_ne e]
    obtain ⟨A', d', e', hf'⟩ := h.row i hi
    exact ⟨A', d', e', hf'.set j _⟩
/-- What setting a register leaves of the circuit, of a list, and of what was there before. -/
theorem Regs.grown (h : Regs b g v w n c vs rs) (x : Value) : w.grownBy (w.setCell ⟨b, j, none⟩ x) (some b) := (h.own.stored j x).2
theorem Regs.cir (h : Regs b g v w n c vs rs) (hc : Cir B g w v v1 m z) (x : Value) : Cir B g (w.setCell ⟨b, j, none⟩ x) v v1 m z :=
  hc.grown (u := .slice (some ⟨b, 0, none⟩) n c) (h.grown x) (fun e => h.ne (by injection e)) (fun q e e' => h.ap (by rw [e', ← e]; rfl))
theorem Regs.keep (h : Regs b g v w n c vs rs) (x : Value) {g' : Nat} {v'' : Value} {w0 : World} (t : Turn g' v'' w0 v' w) (hb : w0.heap.size ≤ b) : Turn g' v'' w0 v' (w.setCell ⟨b, j, none⟩ x) :=
  t.grown (u := .slice (some ⟨b, 0, none⟩) n c) (h.grown x) (fun k e => by have e1 : b = k := by injection e
                                                                           omega)
theorem Regs.list (h : Regs b g v w n c vs rs) (x : Value) (hw : Wl g v B w u k us) (hu : u.ownBlock ≠ some b) : Wl g v B (w.setCell ⟨b, j, none⟩ x) u k us :=
  ⟨hw.own.kept (h.grown x) (.inr hu), hw.ne, hw.ap⟩
/-- A table of one row eight times. -/
theorem Regs.same (ho : w.ownsRow b 25 1 (.slice (some ⟨b, 0, none⟩) n c) n (List.replicate n (.slice A us.length m))) (hn : b ≠ g) (ha : v.ownBlock ≠ some b) (hf : Far b g v w A us) : Regs b g v w n c (List.replicate n (.slice A us.length m)) (List.replicate n us) := by
  refine ⟨ho, hn, ha, by simp, fun j hj => ?_⟩
  have e1 : (List.replicate n us).getD j [] = us := by
    rw [List.getD_eq_getElem?_getD, List.getElem?_replicate, if_pos hj]
    rfl
  have e2 : (List.replicate n (Value.slice A us.length m)).getD j undef = .slice A us.length m := by
    rw [List.getD_eq_getElem?_getD, List.getElem?_replicate, if_pos hj]
    rfl
  rw [e1, e2]
  exact ⟨A, m, rfl, hf⟩
end
end Go.Proofs.Ytbbdmgomcpmhpaa

namespace Go.Proofs.Ytbbdmgomcpmhpaa
open Go Go.RowKit
/-- A word of wires in memory that is no part of the circuit, of its outputs, or of block b. -/
def Rw (g b : Nat) (v u : Value) (w : World) (A : Option Addr) (us : List Int) : Prop :=
  ∃ k o, A = some ⟨k, o, none⟩ ∧ k < w.heap.size ∧ (k ≠ g ∧ k ≠ b ∧ v.ownBlock ≠ some k ∧ u.ownBlock ≠ some k) ∧ ∀ j, j < us.length → w.cell? ⟨k, o + j, none⟩ = some (.int .i64 (us.getD j 0))
/-- What a statement turns: the circuit's box, block b, the blocks of the gates and of the outputs, and new memory. -/
structure Tn (g b : Nat) (v u : Value) (w : World) (v' u' : Value) (w' : World) : Prop where
  os : w'.os = w.os
  tape : w'.tape = w.tape
  output : w'.output = w.output
  size : w.heap.size ≤ w'.heap.size
  block : ∀ k, k < w.heap.size → k ≠ g → k ≠ b → v.ownBlock ≠ some k → u.ownBlock ≠ some k → w'.heap[k]? = w.heap[k]?
  av : ∀ k, v'.ownBlock = some k → v.ownBlock = some k ∨ w.heap.size ≤ k
  au : ∀ k, u'.ownBlock = some k → u.ownBlock = some k ∨ w.heap.size ≤ k
section
variable {B g b n n' m k c i j : Nat} {w w1 w2 : World} {v v' u u' u'' v'' x : Value} {us z os : List Int} {vs : List Value} {rg : List (List Int)} {A : Option Addr}
theorem Tn.refl (g b : Nat) (v u : Value) (w : World) : Tn g b v u w v u w := ⟨rfl, rfl, rfl, Nat.le_refl _, fun _ _ _ _ _ _ => rfl, fun _ e => .inl e, fun _ e => .inl e⟩
theorem Tn.below (h : Tn g b v u w v' u' w1) (hb : Below w1.heap.size w1 w2) : Tn g b v u w v' u' w2 :=
  ⟨hb.os.trans h.os, hb.tape.trans h.tape, hb.output.trans h.output, Nat.le_trans h.size hb.size, fun k hk h1 h2 h3 h4 => (hb.block k (Nat.lt_of_lt_of_le hk h.size)).trans (h.block k hk h1 h2 h3 h4), h.av, h.au⟩
theorem Tn.trans (h : Tn g b v u w v' u' w1) (k : Tn g b v' u' w1 v'' u'' w2) : Tn g b v u w v'' u'' w2 :=
  ⟨k.os.trans h.os, k.tape.trans h.tape, k.output.trans h.output, Nat.le_trans h.size k.size, fun i hi h1 h2 h3 h4 => (k.block i (Nat.lt_of_lt_of_le hi h.size) h1 h2 (fun e => by
    rcases h.av i e with e1 | e1
    · exact h3 e1
    · omega) (fun e => by
    rcases h.au i e with e1 | e1
    · exact h4 e1
    · omega)).trans (h.block i hi h1 h2 h3 h4), fun q e => by
    rcases k.av q e with e1 | e1
    · exact h.av q e1
    · exact .inr (Nat.le_trans h.size e1), fun q e => by
    rcases k.au q e with e1 | e1
    · exact h.au q e1
    · exact .inr (Nat.le_trans h.size e1)⟩
theorem Tn.drew (h : Tn g b v u w v' u' w1) : Tn g b v u w v' u' w1.drew := ⟨h.os, h.tape, h.output, h.size, h.block, h.av, h.au⟩
theorem Tn.of_turn (t : Turn g v w v' w1) (b : Nat) (u : Value) : Tn g b v u w v' u w1 := ⟨t.os, t.tape, t.output, t.size, fun k hk h1 _ h3 _ => t.block k hk h1 h3, t.at_, fun _ e => .inl e⟩
theorem Tn.set (g b : Nat) (v u : Value) (w : World) (i : Nat) (x : Value) : Tn g b v u w v u (w.setCell ⟨b, i, none⟩ x) :=
  ⟨rfl, rfl, rfl, by simp, fun k _ _ h2 _ _ => Below.heap_setCell _ _ _ _ (by simpa using h2), fun _ e => .inl e, fun _ e => .inl e⟩
/-- The outputs grow, and their slice is stored in the box. -/
theorem Tn.app (hg : w.grownBy w1 u.ownBlock) (hu : ∀ k, u'.ownBlock = some k → u.ownBlock = some k ∨ w.heap.size ≤ k) (i : Nat) (x : Value) : Tn g b v u w v u' (w1.setCell ⟨g, i, none⟩ x) :=
  ⟨hg.os, hg.tape, hg.output, by simpa using hg.size, fun k hk h1 _ _ h4 => by
    rw [Below.heap_setCell _ _ _ _ (by simpa using h1)]
    exact hg.block k hk (fun e => h4 e.symm), fun _ e => .inl e, hu⟩
/-- Nothing below the call's own memory turns. -/
theorem Tn.low (t : Tn g b v u w v' u' w1) (hg : B ≤ g) (hb : B ≤ b) (hv : ∀ k, v.ownBlock = some k → B ≤ k) (hu : ∀ k, u.ownBlock = some k → B ≤ k) (hB : B ≤ w.heap.size) : Below B w w1 :=
  ⟨t.os, t.tape, t.output, t.size, fun k hk => t.block k (by omega) (by omega) (by omega) (fun e => by have := hv k e; omega) (fun e => by have := hu k e; omega)⟩
theorem Rw.off (h : Rw g b v u w A us) : Off g v w A us := fun _ => by
  obtain ⟨k, o, e, hl, ⟨h1, _, h3, _⟩, hc⟩ := h
  exact ⟨k, o, e, ⟨hl, h1, h3⟩, hc⟩
theorem Rw.ints (h : Rw g b v u w A us) : Ints w A us := h.off.ints
theorem Rw.tn (h : Rw g b v u w A us) (t : Tn g b v u w v' u' w1) : Rw g b v' u' w1 A us := by
  obtain ⟨k, o, e, hl, ⟨h1, h2, h3, h4⟩, hc⟩ := h
  refine ⟨k, o, e, Nat.lt_of_lt_of_le hl t.size, ⟨h1, h2, fun e => ?_, fun e => ?_⟩, fun j hj => (World.cell?_of_block (t.block k hl h1 h2 h3 h4)).trans (hc j hj)⟩
  · rcases t.av k e with e1 | e1
    · exact h3 e1
    · omega
  · rcases t.au k e with e1 | e1
    · exact h4 e1
    · omega
theorem Rw.at_ (h : Rw g b v u w A us) (hj : j < us.length) : ∃ k o, A = some ⟨k, o, none⟩ ∧ w.cell? ⟨k, o + j, none⟩ = some (.int .i64 (us.getD j 0)) := by
  obtain ⟨k, o, e, _, _, hc⟩ := h
  exact ⟨k, o, e, hc j hj⟩
/-- A list that was made in new memory. -/
theorem Wl.rw (h : Wl g v B w (.slice A k c) k us) (h0 : 0 < us.length) (hb : b < B) (hu : ∀ q, u.ownBlock = some q → q < B) : Rw g b v u w A us := by
  obtain ⟨q, o, e, hl, hc⟩ := Ints.of_own h.own h0
  subst e
  have := (h.own.lt q rfl).1
  exact ⟨q, o, rfl, hl, ⟨fun e => h.ne (by rw [← e]; rfl), by omega, fun e => h.ap q rfl e, fun e => by have := hu q e; omega⟩, hc⟩
/-- The words of eight registers. -/
structure Tb (g b : Nat) (v u : Value) (w : World) (vs : List Value) (rg : List (List Int)) : Prop where
  vlen : vs.length = 8
  len : rg.length = 8
  row : ∀ j, j < 8 → ∃ A d, vs.getD j undef = .slice A 4 d ∧ 4 ≤ d ∧ (rg.getD j []).length = 4 ∧ Rw g b v u w A (rg.getD j [])
theorem Tb.tn (h : Tb g b v u w vs rg) (t : Tn g b v u w v' u' w1) : Tb g b v' u' w1 vs rg := ⟨h.vlen, h.len, fun j hj => by
  obtain ⟨A, d, e, hd, hl, hr⟩ := h.row j hj
  exact ⟨A, d, e, hd, hl, hr.tn t⟩⟩
theorem Tb.set (h : Tb g b v u w vs rg) (hj : j < 8) {d : Nat} (hd : 4 ≤ d) (hl : us.length = 4) (hr : Rw g b v u w A us) : Tb g b v u w (vs.set j (.slice A 4 d)) (rg.set j us) := by
  refine ⟨by rw [List.length_set]; exact h.vlen, by rw [List.length_set]; exact h.len, fun i hi => ?_⟩
  have h1 := h.vlen
  have h2 := h.len
  by_cases e : j = i
  · subst e
    rw [gV_eq (by omega), gL_eq (by omega)]
    exact ⟨A, d, rfl, hd, hl, hr⟩
  · rw [gV_ne e, gL_ne e]
    exact h.row i hi
theorem Tb.same {d : Nat} (hd : 4 ≤ d) (hl : us.length = 4) (hr : Rw g b v u w A us) : Tb g b v u w (List.replicate 8 (.slice A 4 d)) (List.replicate 8 us) := by
  refine ⟨by simp, by simp, fun j hj => ?_⟩
  have e1 : (List.replicate 8 us).getD j [] = us := by
    rw [List.getD_eq_getElem?_getD, List.getElem?_replicate, if_pos hj]
    rfl
  have e2 : (List.replicate 8 (Value.slice A 4 d)).getD j undef = .slice A 4 d := by
    rw [List.getD_eq_getElem?_getD, List.getElem?_replicate, if_pos hj]
    rfl
  rw [e1, e2]
  exact ⟨A, d, rfl, hd, hl, hr⟩
/-- The outputs so far, in a block of their own, lie apart from a builder's turning. -/
theorem Wl.lows (h : Wl g v B w u m os) : ∀ q, u.ownBlock = some q → q < w.heap.size := fun q e => (h.own.lt q e).2
end
/-- The program's compilation: the circuit, the words and the wire 0 in one box. -/
structure Cp (B g : Nat) (w : World) (v u : Value) (vs : List Value) (n m : Nat) (z os : List Int) (rg : List (List Int)) : Prop where
  cir : Cir B g w v ⟨u :: (vs ++ [.int .i64 0]), 69⟩ n z
  outs : Wl g v B w u m os
  low : B ≤ g
  tab : Tb g g v u w vs rg
section
variable {B g n n' m k c i j : Nat} {w w1 w2 : World} {v v' u u' x : Value} {us z z' os : List Int} {vs : List Value} {rg : List (List Int)} {A : Option Addr}
theorem Cp.next (h : Cp B g w v u vs n m z os rg) (hc : Cir B g w1 v' ⟨u :: (vs ++ [.int .i64 0]), 69⟩ n' z') (t : Turn g v w v' w1) : Cp B g w1 v' u vs n' m z' os rg :=
  ⟨hc, h.outs.turn t, h.low, h.tab.tn (Tn.of_turn t g u)⟩
theorem Cp.below (h : Cp B g w v u vs n m z os rg) (hb : Below w.heap.size w w1) : Cp B g w1 v u vs n m z os rg := h.next (h.cir.below hb) ((Turn.refl _ _ _).below hb)
theorem Cp.alloc (h : Cp B g w v u vs n m z os rg) (o : Obj) : Cp B g (w.alloc o) v u vs n m z os rg := h.below (below_alloc w o)
theorem Cp.drew (h : Cp B g w v u vs n m z os rg) : Cp B g w.drew v u vs n m z os rg := h.next h.cir.drew ((Turn.refl _ _ _).drew)
theorem Cp.drewN (h : Cp B g w v u vs n m z os rg) (i : Nat) : Cp B g (w.drewN i) v u vs n m z os rg := h.next (h.cir.drewN i) ((Turn.refl _ _ _).drewN i)
theorem Cp.vlt (h : Cp B g w v u vs n m z os rg) : ∀ k, v.ownBlock = some k → B ≤ k := fun k e => (h.cir.own.lt k e).1
theorem Cp.ult (h : Cp B g w v u vs n m z os rg) : ∀ k, u.ownBlock = some k → B ≤ k := fun k e => (h.outs.own.lt k e).1
theorem Cp.lows (h : Cp B g w v u vs n m z os rg) (t : Tn g g v u w v' u' w1) (hB : B ≤ w.heap.size) : Below B w w1 := t.low h.low h.low h.vlt h.ult hB
theorem Cp.cell (h : Cp B g w v u vs n m z os rg) (hj : j < 8) (e : vs.getD j undef = x) : w.cell? ⟨g, 2 + j, none⟩ = some x ∧ w.frozen? ⟨g, 2 + j, none⟩ = false := by
  have hv := h.tab.vlen
  refine blk (i := 2 + j) (u := x) h.cir.box (by
    rw [← e, List.getD_eq_getElem?_getD]
    rw [show 2 + j = j + 1 + 1 by omega]
    simp [List.getElem?_append_left (show j < vs.length by omega)]
    rw [List.getElem?_eq_getElem (by omega)]
    rfl)
theorem Cp.zero (h : Cp B g w v u vs n m z os rg) : w.cell? ⟨g, 10, none⟩ = some (.int .i64 0) := (blk (i := 10) (u := .int .i64 0) h.cir.box (by
    have hv := h.tab.vlen
    simp [hv])).1
theorem Cp.one (h : Cp B g w v u vs n m z os rg) : w.cell? ⟨g, 1, none⟩ = some u ∧ w.frozen? ⟨g, 1, none⟩ = false := blk (i := 1) h.cir.box rfl
/-- A register's word is set. -/
theorem Cp.set (h : Cp B g w v u vs n m z os rg) (hj : j < 8) {d : Nat} (hd : 4 ≤ d) (hl : us.length = 4) (hr : Rw g g v u w A us) :
    Cp B g (w.setCell ⟨g, 2 + j, none⟩ (.slice A 4 d)) v u (vs.set j (.slice A 4 d)) n m z os (rg.set j us) := by
  have t := Tn.set g g v u w (2 + j) (.slice A 4 d)
  have hv := h.tab.vlen
  refine ⟨⟨?_, h.cir.own.kept (grown_box w g (2 + j) _) (.inr h.cir.ne), h.cir.ne⟩, h.outs.rest _, h.low, (h.tab.set hj hd hl hr).tn t⟩
  have hb := heap_set (i := 2 + j) h.cir.box (.slice A 4 d)
  rw [hb]
  congr 2
  rw [show 2 + j = j + 1 + 1 by omega]
  simp [show j < vs.length by omega]
/-- The outputs grow. -/
theorem Cp.app (h : Cp B g w v u vs n m z os rg) (ho : w1.ownsRow B 3 1 u' (m + k) (intVals os ++ intVals us)) (hg : w.grownBy w1 u.ownBlock) (hat : u'.ownBlock = u.ownBlock ∨ u'.ownBlock = some w.heap.size) :
    Cp B g (w1.setCell ⟨g, 1, none⟩ u') v u' vs n (m + k) z (os ++ us) rg := by
  have hgl := h.cir.lt
  have hne : u'.ownBlock ≠ some g := fun e => by
    rcases hat with e1 | e1
    · exact h.outs.ne (e1 ▸ e)
    · rw [e1] at e
      injection e with e
      omega
  have hap : apart u' v := fun q e e' => by
    rcases hat with e1 | e1
    · exact h.outs.ap q (e1 ▸ e) e'
    · rw [e1] at e
      injection e with e
      have := (h.cir.own.lt q e').2
      omega
  refine ⟨(h.cir.grown hg h.outs.ne h.outs.ap).rest 0 u', Wl.rest (⟨by rw [show intVals (os ++ us) = intVals os ++ intVals us by simp [intVals]]; exact ho, hne, hap⟩ : Wl g v B w1 u' (m + k) (os ++ us)) u', h.low, h.tab.tn (Tn.app hg (fun q e => ?_) 1 u')⟩
  rcases hat with e1 | e1
  · exact .inl (e1 ▸ e)
  · rw [e1] at e
    injection e with e
    exact .inr (by omega)
theorem Cp.app_low (h : Cp B g w v u vs n m z os rg) (hg : w.grownBy w1 u.ownBlock) (hB : B ≤ w.heap.size) : Below B w (w1.setCell ⟨g, 1, none⟩ u') :=
  ((Below.refl B w).grown hg hB h.ult).setCell (p := ⟨g, 1, none⟩) h.low u'
end
end Go.Proofs.Ytbbdmgomcpmhpaa

namespace Go.Proofs.Ytbbdmgomcpmhpaa
open Go Go.RowKit
/-- One gate a bit. -/
def bitsAt (z : List Int) (q : Int) (us bs : List Int) : Nat → List Int × List Int
  | 0 => (z, [])
  | i + 1 =>
    let r := bitsAt z q us bs i
    (putG r.1 q (us.getD i 0) (bs.getD i 0), r.2 ++ [nG r.1])
/-- Input gates, from bit m * 4 on. -/
def inAt (z : List Int) (m : Int) : Nat → List Int × List Int
  | 0 => (z, [])
  | i + 1 =>
    let r := inAt z m i
    (putG r.1 1 (m * 4 + i) 0, r.2 ++ [nG r.1])
/-- The gates of a statement, and the word of its register. -/
def wordG (z : List Int) (rg : List (List Int)) (zero op a b c n : Int) : List Int × List Int :=
  if op = 1 then constAt z n 4 else if op = 2 then inAt z (a * 4 + n) 4 else
  if op = 3 then sumA z (rg.getD a.toNat []) (rg.getD b.toNat []) 0 3 else
  if op = 4 then sumA (notsAt z (rg.getD b.toNat []) 4).1 (rg.getD a.toNat []) (notsAt z (rg.getD b.toNat []) 4).2 1 3 else
  if op = 5 then mulAt z (rg.getD a.toNat []) (rg.getD b.toNat []) 3 else
  if op = 6 then bitsAt z 4 (rg.getD a.toNat []) (rg.getD b.toNat []) 4 else
  if op = 7 then bitsAt z 3 (rg.getD a.toNat []) (rg.getD b.toNat []) 4 else
  if op = 8 then ((lessA z (rg.getD a.toNat []) (rg.getD b.toNat [])).1, [(lessA z (rg.getD a.toNat []) (rg.getD b.toNat [])).2, zero, zero, zero]) else
  if op = 9 then ((equalA z (rg.getD a.toNat []) (rg.getD b.toNat [])).1, [(equalA z (rg.getD a.toNat []) (rg.getD b.toNat [])).2, zero, zero, zero]) else
  muxAt z ((rg.getD a.toNat []).getD 0 0) (rg.getD b.toNat []) (rg.getD c.toNat []) 4
theorem sumA_len4 (z us ws : List Int) (f : Int) : (sumA z us ws f 3).2.length = 4 := rfl
theorem bitsAt_len4 (z us ws : List Int) (q : Int) : (bitsAt z q us ws 4).2.length = 4 := rfl
theorem constAt_len4 (z : List Int) (n : Int) : (constAt z n 4).2.length = 4 := rfl
theorem inAt_len4 (z : List Int) (n : Int) : (inAt z n 4).2.length = 4 := rfl
theorem muxAt_len4 (z : List Int) (s : Int) (us ws : List Int) : (muxAt z s us ws 4).2.length = 4 := rfl
end Go.Proofs.Ytbbdmgomcpmhpaa
