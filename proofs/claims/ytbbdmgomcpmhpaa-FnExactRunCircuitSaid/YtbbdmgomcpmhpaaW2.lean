/- A circuit that is being built: its box, its gates, the lists of wires; appending a gate, the program's and the model's. No condition. And what goes with it. -/
import Derived.Test.YtbbdmgomcpmhpaaProg
import Derived.Test.YtbbdmgomcpmhpaaW1
import Derived.Test.YtbbdmgomcpmhpaaB1
import Derived.Test.YtbbdmgomcpmhpaaC1
import Derived.BigRegion
namespace Go.Proofs.Ytbbdmgomcpmhpaa
open Go Go.RowKit
/-- What lies in a circuit's box behind its gates: the outputs, and what else a bigger struct has whose first field the circuit is. -/
structure Rest where
  cells : List Value
  ty : TypeId
instance : Coe Value Rest := ⟨fun v => ⟨[v], 27⟩⟩
abbrev Rest.slice (A : Option Addr) (n c : Nat) : Rest := ⟨[.slice A n c], 27⟩
/-- A circuit that is being built: its box, and its gates in a block of the call's own. -/
structure Cir (B g : Nat) (w : World) (v : Value) (v1 : Rest) (n : Nat) (z : List Int) : Prop where
  box : w.heap[g]? = some (.cells ⟨v :: v1.cells⟩ v1.ty (0, 0))
  own : w.ownsRow B 115 3 v n (intVals z)
  ne : v.ownBlock ≠ some g
/-- What a builder turns: the box, the gates' block, and new memory. -/
structure Turn (g : Nat) (v : Value) (w : World) (v' : Value) (w' : World) : Prop where
  os : w'.os = w.os
  tape : w'.tape = w.tape
  output : w'.output = w.output
  size : w.heap.size ≤ w'.heap.size
  block : ∀ k, k < w.heap.size → k ≠ g → v.ownBlock ≠ some k → w'.heap[k]? = w.heap[k]?
  at_ : ∀ b, v'.ownBlock = some b → v.ownBlock = some b ∨ w.heap.size ≤ b
/-- Wires in memory that is no part of the circuit. -/
def Off (g : Nat) (v : Value) (w : World) (A : Option Addr) (us : List Int) : Prop :=
  0 < us.length → ∃ b o, A = some ⟨b, o, none⟩ ∧ (b < w.heap.size ∧ b ≠ g ∧ v.ownBlock ≠ some b) ∧ ∀ j, j < us.length → w.cell? ⟨b, o + j, none⟩ = some (.int .i64 (us.getD j 0))
/-- A list of wires that a builder makes. -/
structure Wl (g : Nat) (v : Value) (B : Nat) (w : World) (u : Value) (k : Nat) (us : List Int) : Prop where
  own : w.ownsRow B 3 1 u k (intVals us)
  ne : u.ownBlock ≠ some g
  ap : apart u v
section
variable {B B' g n k m c : Nat} {w w' w1 w2 : World} {v v' v'' u u' : Value} {v1 : Rest} {z z' us ws : List Int} {A : Option Addr}
theorem Cir.len (h : Cir B g w v v1 n z) : z.length = n * 3 := by have := h.own.1; rwa [intVals_length] at this
theorem Cir.lt (h : Cir B g w v v1 n z) : g < w.heap.size := heap_lt h.box
theorem Cir.below (h : Cir B g w v v1 n z) (hb : Below w.heap.size w w1) : Cir B g w1 v v1 n z := ⟨heap_below h.box hb, own_below h.own hb, h.ne⟩
theorem Cir.alloc (h : Cir B g w v v1 n z) (o : Obj) : Cir B g (w.alloc o) v v1 n z := h.below (below_alloc w o)
theorem Cir.drew (h : Cir B g w v v1 n z) : Cir B g w.drew v v1 n z := ⟨h.box, h.own, h.ne⟩
theorem Cir.drewN (h : Cir B g w v v1 n z) (i : Nat) : Cir B g (w.drewN i) v v1 n z := ⟨h.box, h.own, h.ne⟩
theorem Cir.mono (h : Cir B g w v v1 n z) (e : B' ≤ B) : Cir B' g w v v1 n z := ⟨h.box, own_mono h.own e, h.ne⟩
/-- Another list turns. -/
theorem Cir.grown (h : Cir B g w v v1 n z) (hg : w.grownBy w1 u.ownBlock) (hu : u.ownBlock ≠ some g) (ha : apart u v) : Cir B g w1 v v1 n z :=
  ⟨heap_grown h.box hg hu, h.own.kept hg (by
    rcases hv : v.ownBlock with _ | b
    · exact .inl rfl
    · exact .inr (fun e => ha b e.symm hv)), h.ne⟩
theorem Turn.refl (g : Nat) (v : Value) (w : World) : Turn g v w v w := ⟨rfl, rfl, rfl, Nat.le_refl _, fun _ _ _ _ => rfl, fun _ e => .inl e⟩
theorem Turn.trans (h : Turn g v w v' w1) (k : Turn g v' w1 v'' w2) : Turn g v w v'' w2 :=
  ⟨k.os.trans h.os, k.tape.trans h.tape, k.output.trans h.output, Nat.le_trans h.size k.size, fun i hi h1 h2 => (k.block i (Nat.lt_of_lt_of_le hi h.size) h1 (fun e => by
    rcases h.at_ i e with e1 | e1
    · exact h2 e1
    · omega)).trans (h.block i hi h1 h2), fun b e => by
    rcases k.at_ b e with e1 | e1
    · exact h.at_ b e1
    · exact .inr (Nat.le_trans h.size e1)⟩
theorem Turn.below (h : Turn g v w v' w1) (hb : Below w1.heap.size w1 w2) : Turn g v w v' w2 :=
  ⟨hb.os.trans h.os, hb.tape.trans h.tape, hb.output.trans h.output, Nat.le_trans h.size hb.size, fun i hi h1 h2 => (hb.block i (Nat.lt_of_lt_of_le hi h.size)).trans (h.block i hi h1 h2), h.at_⟩
theorem Turn.alloc (h : Turn g v w v' w1) (o : Obj) : Turn g v w v' (w1.alloc o) := h.below (below_alloc w1 o)
theorem Turn.drew (h : Turn g v w v' w1) : Turn g v w v' w1.drew := ⟨h.os, h.tape, h.output, h.size, h.block, h.at_⟩
theorem Turn.drewN (h : Turn g v w v' w1) (i : Nat) : Turn g v w v' (w1.drewN i) := ⟨h.os, h.tape, h.output, h.size, h.block, h.at_⟩
/-- The same from a world that drew. -/
theorem Turn.ofDrew (h : Turn g v w.drew v' w1) : Turn g v w v' w1 := ⟨h.os, h.tape, h.output, h.size, h.block, h.at_⟩
/-- A list of the builder's own turns. -/
theorem Turn.grown (h : Turn g v w v' w1) (hg : w1.grownBy w2 u.ownBlock) (hu : ∀ k, u.ownBlock = some k → w.heap.size ≤ k) : Turn g v w v' w2 :=
  ⟨hg.os.trans h.os, hg.tape.trans h.tape, hg.output.trans h.output, Nat.le_trans h.size hg.size, fun i hi h1 h2 => (hg.block i (Nat.lt_of_lt_of_le hi h.size) (fun e => by have := hu i e.symm; omega)).trans (h.block i hi h1 h2), h.at_⟩
theorem Turn.low (h : Turn g v w v' w1) (hg : B ≤ g) (hv : ∀ b, v.ownBlock = some b → B ≤ b) (hB : B ≤ w.heap.size) : Below B w w1 :=
  ⟨h.os, h.tape, h.output, h.size, fun k hk => h.block k (by omega) (by omega) (fun e => by have := hv k e; omega)⟩
theorem Off.nil (g : Nat) (v : Value) (w : World) (A : Option Addr) : Off g v w A [] := fun h => absurd h (by simp)
theorem Off.turn (h : Off g v w A us) (t : Turn g v w v' w1) : Off g v' w1 A us := fun h0 => by
  obtain ⟨b, o, e, ⟨h1, h2, h3⟩, hc⟩ := h h0
  refine ⟨b, o, e, ⟨Nat.lt_of_lt_of_le h1 t.size, h2, fun e => ?_⟩, fun j hj => (World.cell?_of_block (t.block b h1 h2 h3)).trans (hc j hj)⟩
  rcases t.at_ b e with e1 | e1
  · exact h3 e1
  · omega
theorem Off.below (h : Off g v w A us) (hb : Below w.heap.size w w1) : Off g v w1 A us := h.turn ((Turn.refl g v w).below hb)
theorem Off.alloc (h : Off g v w A us) (o : Obj) : Off g v (w.alloc o) A us := h.below (below_alloc w o)
theorem Off.drew (h : Off g v w A us) : Off g v w.drew A us := h
theorem Off.drewN (h : Off g v w A us) (i : Nat) : Off g v (w.drewN i) A us := h
theorem Off.at_ {j : Nat} (h : Off g v w A us) (hj : j < us.length) : ∃ b o, A = some ⟨b, o, none⟩ ∧ w.cell? ⟨b, o + j, none⟩ = some (.int .i64 (us.getD j 0)) := by
  obtain ⟨b, o, e, _, hc⟩ := h (by omega)
  exact ⟨b, o, e, hc j hj⟩
theorem Off.ints (h : Off g v w A us) : Ints w A us := fun h0 => by
  obtain ⟨b, o, e, ⟨h1, _⟩, hc⟩ := h h0
  exact ⟨b, o, e, h1, hc⟩
/-- What lay below the circuit's memory is no part of it. -/
theorem Off.of_bound (h : IntsB B w A us) (hg : B ≤ g) (hv : ∀ b, v.ownBlock = some b → B ≤ b) (hB : B ≤ w.heap.size) : Off g v w A us := fun h0 => by
  obtain ⟨b, o, e, h1, hc⟩ := h h0
  exact ⟨b, o, e, ⟨by omega, by omega, fun e => by have := hv b e; omega⟩, hc⟩
theorem Off.cut (h : Off g v w A us) (m : Nat) : Off g v w A (us.take m) := fun h0 => by
  rw [List.length_take] at h0
  obtain ⟨b, o, e, hl, hc⟩ := h (by omega)
  refine ⟨b, o, e, hl, fun j hj => ?_⟩
  rw [List.length_take] at hj
  rw [List.getD_eq_getElem?_getD, List.getElem?_take_of_lt (by omega), ← List.getD_eq_getElem?_getD]
  exact hc j (by omega)
theorem Off.skip {b o : Nat} (h : Off g v w (some ⟨b, o, none⟩) us) (f : Nat) : Off g v w (some ⟨b, o + f, none⟩) (us.drop f) := fun h0 => by
  rw [List.length_drop] at h0
  obtain ⟨b', o', e, hl, hc⟩ := h (by omega)
  injection e with e
  injection e with e1 e2
  subst e1 e2
  refine ⟨b, o + f, rfl, hl, fun j hj => ?_⟩
  rw [List.length_drop] at hj
  have := hc (f + j) (by omega)
  rw [Nat.add_assoc, this]
  simp [List.getD_eq_getElem?_getD]
theorem Wl.len (h : Wl g v B w u k us) : us.length = k := by have := h.own.1; rw [intVals_length] at this; omega
theorem Wl.form (h : Wl g v B w u k us) : ∃ (A : Option Addr) (c : Nat), u = .slice A k c := by
  obtain ⟨A, m, c, e, rfl⟩ := ownsRow_slice h.own
  exact ⟨A, c, e⟩
theorem Wl.nil (g : Nat) (v : Value) (B : Nat) (w : World) : Wl g v B w (.slice none 0 0) 0 [] := ⟨World.ownsRow_nil w B _ 1, by simp [Value.ownBlock], apart.nil _ _ _⟩
theorem Wl.turn (h : Wl g v B w u k us) (t : Turn g v w v' w1) : Wl g v' B w1 u k us := by
  refine ⟨⟨h.own.1, ?_⟩, h.ne, fun b e e' => ?_⟩
  · rcases h.own.2 with e | ⟨b, cap, cur, e, hb, hh, r⟩
    · exact .inl e
    · refine .inr ⟨b, cap, cur, e, hb, (t.block b (heap_lt hh) (fun e1 => h.ne (by rw [e, ← e1]; rfl)) (fun e1 => h.ap b (by rw [e]; rfl) e1)).trans hh, r⟩
  · rcases t.at_ b e' with e1 | e1
    · exact h.ap b e e1
    · have := (h.own.lt b e).2; omega
theorem Wl.below (h : Wl g v B w u k us) (hb : Below w.heap.size w w1) : Wl g v B w1 u k us := h.turn ((Turn.refl g v w).below hb)
theorem Wl.alloc (h : Wl g v B w u k us) (o : Obj) : Wl g v B (w.alloc o) u k us := h.below (below_alloc w o)
theorem Wl.drew (h : Wl g v B w u k us) : Wl g v B w.drew u k us := ⟨h.own, h.ne, h.ap⟩
theorem Wl.drewN (h : Wl g v B w u k us) (i : Nat) : Wl g v B (w.drewN i) u k us := ⟨h.own, h.ne, h.ap⟩
theorem Wl.mono (h : Wl g v B w u k us) (e : B' ≤ B) : Wl g v B' w u k us := ⟨own_mono h.own e, h.ne, h.ap⟩
theorem Wl.off (h : Wl g v B w (.slice A k c) k us) : Off g v w A us := fun h0 => by
  obtain ⟨b, o, e, hl, hc⟩ := Ints.of_own h.own h0
  subst e
  exact ⟨b, o, rfl, ⟨hl, fun e => h.ne (by rw [← e]; rfl), fun e => h.ap b rfl e⟩, hc⟩
theorem Wl.at_ {b j : Nat} (h : Wl g v B w (.slice (some ⟨b, 0, none⟩) k c) k us) (hj : j < k) : w.cell? ⟨b, j, none⟩ = some (.int .i64 (us.getD j 0)) ∧ w.frozen? ⟨b, j, none⟩ = false := by
  refine ⟨?_, h.own.frozenAt j⟩
  have hl := h.len
  rw [h.own.cellAt j (by omega)]
  simp [intVals, List.getElem?_map, List.getD_eq_getElem?_getD, List.getElem?_eq_getElem (show j < us.length by omega)]
/-- What append made of it. -/
theorem Wl.app (h : Wl g v B w u k us) {H b c' : Nat} {xs : List Value} {ys : List Int} (ho : w2.ownsRow B 3 1 (.slice (some ⟨b, 0, none⟩) m c') m xs) (he : xs = intVals ys) (hat : u.ownBlock = some b ∨ b = H)
    (hc : Cir B' g w v v1 n z) (hH : w.heap.size ≤ H) : Wl g v B w2 (.slice (some ⟨b, 0, none⟩) m c') m ys := by
  subst he
  have hgl := hc.lt
  have e0 : (Value.slice (some ⟨b, 0, none⟩) m c').ownBlock = some b := rfl
  refine ⟨ho, fun e => ?_, fun q e e' => ?_⟩
  · rw [e0] at e
    injection e with e
    subst e
    rcases hat with h1 | h1
    · exact h.ne h1
    · omega
  · rw [e0] at e
    injection e with e
    subst e
    rcases hat with h1 | h1
    · exact h.ap b h1 e'
    · have := (hc.own.lt b e').2; omega
theorem Wl.cap (h : Wl g v B w (.slice A k c) k us) : k ≤ c := by
  rcases h.own.2 with ⟨_, h1⟩ | ⟨g, cap, cur, e, _, _, h2, _⟩
  · omega
  · injection e with _ _ e3
    omega
/-- A list in memory that was not there when the circuit was. -/
theorem Wl.fresh (h : Cir B' g w v v1 n z) (ho : w1.ownsRow B 3 1 u k (intVals us)) (hb : w.heap.size ≤ B) : Wl g v B w1 u k us :=
  ⟨ho, fun e => by have := (ho.lt g e).1; have := h.lt; omega, fun q e e' => by have := (ho.lt q e).1; have := (h.own.lt q e').2; omega⟩
theorem Wl.from_ (h : Wl g v B w u k us) (e : B' ≤ B) : ∀ q, u.ownBlock = some q → B' ≤ q := fun q e' => Nat.le_trans e (h.own.lt q e').1
end
/-- A builder on its way: the circuit, what turned since it began, its list of wires. -/
structure Bl (B g : Nat) (v : Value) (w wr : World) (v' : Value) (v1 : Rest) (n : Nat) (z : List Int) (u : Value) (k : Nat) (us : List Int) : Prop where
  cir : Cir B g wr v' v1 n z
  turn : Turn g v w v' wr
  wl : Wl g v' w.heap.size wr u k us
section
variable {B g n n' k b c : Nat} {w wr w1 w2 : World} {v v' v'' u : Value} {v1 : Rest} {z z' us : List Int} {x : Int}
theorem Bl.next (h : Bl B g v w wr v' v1 n z u k us) (hc : Cir B g w1 v'' v1 n' z') (t : Turn g v' wr v'' w1) : Bl B g v w w1 v'' v1 n' z' u k us := ⟨hc, h.turn.trans t, h.wl.turn t⟩
theorem Bl.below (h : Bl B g v w wr v' v1 n z u k us) (hb : Below wr.heap.size wr w1) : Bl B g v w w1 v' v1 n z u k us := h.next (h.cir.below hb) ((Turn.refl _ _ _).below hb)
theorem Bl.alloc (h : Bl B g v w wr v' v1 n z u k us) (o : Obj) : Bl B g v w (wr.alloc o) v' v1 n z u k us := h.below (below_alloc _ _)
theorem Bl.drew (h : Bl B g v w wr v' v1 n z u k us) : Bl B g v w wr.drew v' v1 n z u k us := ⟨h.cir.drew, h.turn.drew, h.wl.drew⟩
theorem Bl.drewN (h : Bl B g v w wr v' v1 n z u k us) (i : Nat) : Bl B g v w (wr.drewN i) v' v1 n z u k us := ⟨h.cir.drewN i, h.turn.drewN i, h.wl.drewN i⟩
theorem Bl.size (h : Bl B g v w wr v' v1 n z u k us) : w.heap.size ≤ wr.heap.size := h.turn.size
/-- A place of the list is set. -/
theorem Bl.set (h : Bl B g v w wr v' v1 n z (.slice (some ⟨b, 0, none⟩) k c) k us) (j : Nat) (x : Int) : Bl B g v w (wr.setCell ⟨b, j, none⟩ (.int .i64 x)) v' v1 n z (.slice (some ⟨b, 0, none⟩) k c) k (us.set j x) := by
  have hs := h.wl.own.stored j (.int .i64 x)
  refine ⟨h.cir.grown (u := .slice (some ⟨b, 0, none⟩) k c) hs.2 h.wl.ne h.wl.ap, h.turn.grown (u := .slice (some ⟨b, 0, none⟩) k c) hs.2 (h.wl.from_ (Nat.le_refl _)), ?_, h.wl.ne, h.wl.ap⟩
  rw [show intVals (us.set j x) = (intVals us).set j (.int .i64 x) by simp [intVals, List.map_set]]
  exact hs.1
/-- A wire is appended to the list. -/
theorem Bl.app {o : Obj} (h : Bl B g v w wr v' v1 n z u k us) (ho : w2.ownsRow w.heap.size 3 1 (.slice (some ⟨b, 0, none⟩) (k + 1) c) (k + 1) (intVals us ++ (#[Value.int .i64 x] : Array Value).toList)) (hg : (wr.alloc o).grownBy w2 u.ownBlock) (hat : u.ownBlock = some b ∨ b = wr.heap.size + 1) :
    Bl B g v w w2 v' v1 n z (.slice (some ⟨b, 0, none⟩) (k + 1) c) (k + 1) (us ++ [x]) := by
  have h1 := h.alloc o
  refine ⟨h1.cir.grown hg h1.wl.ne h1.wl.ap, h1.turn.grown hg (h1.wl.from_ (Nat.le_refl _)), ?_⟩
  have h2 := h1.wl.app (H := wr.heap.size + 1) ho (ys := us ++ [x]) (by simp [intVals]) hat h1.cir (by simp)
  have hne := h2.ne
  exact ⟨h2.own, h2.ne, h2.ap⟩
end
theorem grown_box (w : World) (g i : Nat) (x : Value) : w.grownBy (w.setCell ⟨g, i, none⟩ x) (some g) := ⟨rfl, rfl, rfl, by simp, fun k _ h2 => Below.heap_setCell _ _ _ _ (by simpa using fun e => h2 (by rw [e]))⟩
/-- A cell of the box behind the gates is set. -/
theorem Cir.rest {B g n : Nat} {w : World} {v : Value} {r : Rest} {z : List Int} (h : Cir B g w v r n z) (i : Nat) (x : Value) : Cir B g (w.setCell ⟨g, i + 1, none⟩ x) v ⟨r.cells.set i x, r.ty⟩ n z := by
  refine ⟨?_, h.own.kept (grown_box w g (i + 1) x) (.inr h.ne), h.ne⟩
  rw [heap_set (i := i + 1) h.box x]
  simp
theorem Wl.rest {B g k i : Nat} {w : World} {v u : Value} {us : List Int} (h : Wl g v B w u k us) (x : Value) : Wl g v B (w.setCell ⟨g, i, none⟩ x) u k us :=
  ⟨h.own.kept (grown_box w g i x) (.inr h.ne), h.ne, h.ap⟩
theorem Turn.cell {g q i : Nat} {w w1 : World} {v v' x : Value} (t : Turn g v w v' w1) (h : w.cell? ⟨q, i, none⟩ = some x) (hg : q ≠ g) (hv : v.ownBlock ≠ some q) : w1.cell? ⟨q, i, none⟩ = some x :=
  (World.cell?_of_block (t.block q (World.block_lt_of_cell? w _ h) hg hv)).trans h
/-- A gate was appended: its wire, and the circuit. -/
def PutW (B g : Nat) (v1 : Rest) (n' : Nat) (z' : List Int) (x : Int) (v : Value) (w : World) (e : Ending) (w' : World) : Prop :=
  ∃ v', e = .returned (.int .i64 x) ∧ Cir B g w' v' v1 n' z' ∧ Turn g v w v' w'
/-- Gates were appended: a list of wires in new memory, and the circuit. -/
def PutL (B g : Nat) (v1 : Rest) (n' : Nat) (z' us : List Int) (v : Value) (w : World) (e : Ending) (w' : World) : Prop :=
  ∃ (v' : Value) (A : Option Addr) (k c : Nat), e = .returned (.slice A k c) ∧ us.length = k ∧ Cir B g w' v' v1 n' z' ∧ Turn g v w v' w' ∧ Wl g v' w.heap.size w' (.slice A k c) k us
/-- A list of wires in new memory, and a wire. -/
def PutLP (B g : Nat) (v1 : Rest) (n' : Nat) (z' us : List Int) (x : Int) (v : Value) (w : World) (e : Ending) (w' : World) : Prop :=
  ∃ (v' : Value) (A : Option Addr) (k c : Nat), e = .returned (.tuple #[.slice A k c, .int .i64 x]) ∧ us.length = k ∧ Cir B g w' v' v1 n' z' ∧ Turn g v w v' w' ∧ Wl g v' w.heap.size w' (.slice A k c) k us
/-- Two wires. -/
def PutP (B g : Nat) (v1 : Rest) (n' : Nat) (z' : List Int) (x y : Int) (v : Value) (w : World) (e : Ending) (w' : World) : Prop :=
  ∃ v', e = .returned (.tuple #[.int .i64 x, .int .i64 y]) ∧ Cir B g w' v' v1 n' z' ∧ Turn g v w v' w'
/-- The gates' row behind an append, the box behind the store. -/
theorem Cir.put {B g n b c : Nat} {w w2 : World} {v : Value} {v1 : Rest} {z : List Int} {k x y : Int} {H : Nat} (h : Cir B g w v v1 n z)
    (ho : w2.ownsRow B 115 3 (.slice (some ⟨b, 0, none⟩) (n + 1) c) (n + 1) (intVals z ++ [.int .i64 k, .int .i64 x, .int .i64 y])) (hg : w.grownBy w2 v.ownBlock) (hat : v.ownBlock = some b ∨ b = H) (hH : w.heap.size ≤ H) :
    Cir B g (w2.setCell ⟨g, 0, none⟩ (.slice (some ⟨b, 0, none⟩) (n + 1) c)) (.slice (some ⟨b, 0, none⟩) (n + 1) c) v1 (n + 1) (putG z k x y) ∧ Turn g v w (.slice (some ⟨b, 0, none⟩) (n + 1) c) (w2.setCell ⟨g, 0, none⟩ (.slice (some ⟨b, 0, none⟩) (n + 1) c)) := by
  have hgl := h.lt
  have hbg : b ≠ g := by
    rcases hat with e | e
    · intro e1; subst e1; exact h.ne e
    · omega
  have eo : (Value.slice (some ⟨b, 0, none⟩) (n + 1) c).ownBlock = some b := rfl
  refine ⟨⟨heap_set (heap_grown h.box hg h.ne) _, ?_, fun e => ?_⟩, ⟨hg.os, hg.tape, hg.output, by simpa using hg.size, fun q hq h1 h2 => ?_, fun q e => ?_⟩⟩
  · rw [show intVals (putG z k x y) = intVals z ++ [.int .i64 k, .int .i64 x, .int .i64 y] by simp [intVals, putG]]
    refine ⟨ho.1, ?_⟩
    rcases ho.2 with e | ⟨b', cap, cur, e, hb', hh, r⟩
    · exact .inl e
    · have e2 : b = b' := by injection e with e; injection e with e; injection e
      subst e2
      exact .inr ⟨b, cap, cur, e, hb', by rw [Below.heap_setCell _ _ _ _ (by simpa using hbg)]; exact hh, r⟩
  · rw [eo] at e
    injection e with e
    exact hbg e
  · rw [Below.heap_setCell _ _ _ _ (by simpa using h1)]
    exact hg.block q hq (fun e => h2 e.symm)
  · rw [eo] at e
    injection e with e
    subst e
    rcases hat with e | e
    · exact .inl e
    · exact .inr (by omega)
set_option maxRecDepth 100000 in
theorem impl_appendGate (B g n : Nat) (v : Value) (v1 : Rest) (z : List Int) (k a b : Int) (w : World) (h : Cir B g w v v1 n z) (hB : B ≤ w.heap.size) (hn : n ≤ 1000000) :
    Calls Try.prog 82 #[.pointer (some ⟨g, 0, none⟩), .agg #[.int .i64 k, .int .i64 a, .int .i64 b]] w (PutW B g v1 (n + 1) (putG z k a b) (nG z) v w) := by
  have hl := h.len
  rw [nG_is hl]
  have t0 := (Turn.refl g v w).alloc (.cells #[.int .i64 k, .int .i64 a, .int .i64 b] 115)
  have b0 := heap_alloc_new w (.cells #[.int .i64 k, .int .i64 a, .int .i64 b] 115)
  have h0 := h.alloc (.cells #[.int .i64 k, .int .i64 a, .int .i64 b] 115)
  have hB0 : B ≤ (w.alloc (.cells #[.int .i64 k, .int .i64 a, .int .i64 b] 115)).heap.size := by simp; omega
  have hgl := h.lt
  clear h hl
  go_enter Try.func82, Try.ntmps82
  go_upto_region 1 with (fail)
  generalize hw0 : w.alloc (.cells #[.int .i64 k, .int .i64 a, .int .i64 b] 115) = w0 at *
  have hs : w.heap.size < w0.heap.size := by rw [← hw0]; simp
  clear hw0
  have hd := h0.drew
  have c0 := (blk (i := 0) h0.box rfl).1
  have c1 := (blk (i := 0) (h0.alloc (.cells #[.int .i64 k, .int .i64 a, .int .i64 b] 115)).box rfl).1
  obtain ⟨d0, _⟩ := blk (i := 0) b0 rfl
  obtain ⟨d1, _⟩ := blk (i := 1) b0 rfl
  obtain ⟨d2, _⟩ := blk (i := 2) b0 rfl
  go_region_law (first
    | (refine app_step (e' := 115) elemGate (by rfl) _ _ (by rfl) B v n (intVals z) (by rfl) (hd.alloc (.cells #[.int .i64 k, .int .i64 a, .int .i64 b] 115)).own w0.heap.size 1 1 _ (0, 0) (by rfl) (heap_alloc_new w0.drew _) (by rfl) (oneCell_i64 [_, _, _]) (by omega) (by unfold maxLen; omega) (by omega) (by simp; omega) (w0.heap.size + 1) (by simp) ?_; intro g5 e5 w5 ho5 hg5 hat5 hl5; (have bx5 := heap_grown (hd.alloc (.cells #[.int .i64 k, .int .i64 a, .int .i64 b] 115)).box hg5 h0.ne); (obtain ⟨a5, f5⟩ := blk (i := 0) bx5 rfl)))
  all_goals
    obtain ⟨p1, p2⟩ := (hd.alloc (.cells #[.int .i64 k, .int .i64 a, .int .i64 b] 115)).put ho5 hg5 hat5 (by simp)
    have q1 := Lib.hid p1
    have q2 := Lib.hid ((t0.drew.alloc (.cells #[.int .i64 k, .int .i64 a, .int .i64 b] 115)).trans p2)
    have e1 := (blk (i := 0) p1.box rfl).1
    clear p1 p2 ho5 hg5 hat5 hl5 bx5 a5 f5 hd c0 c1 d0 d1 d2 b0 h0 t0
    go_wp2_with fail
    go_ret
    exact ⟨_, ret_int (by omega), q1.out, q2.out⟩
set_option maxRecDepth 100000 in
theorem spec_l14Put (B g n : Nat) (v : Value) (v1 : Rest) (z : List Int) (k a b : Int) (w : World) (h : Cir B g w v v1 n z) (hB : B ≤ w.heap.size) (hn : n ≤ 1000000) :
    Calls Try.prog 50 #[.pointer (some ⟨g, 0, none⟩), .int .i64 k, .int .i64 a, .int .i64 b] w (PutW B g v1 (n + 1) (putG z k a b) (nG z) v w) := by
  have hl := h.len
  rw [nG_is hl]
  have t0 := (Turn.refl g v w).alloc (.cells #[.int .i64 k, .int .i64 a, .int .i64 b] 115)
  have h0 := h.alloc (.cells #[.int .i64 k, .int .i64 a, .int .i64 b] 115)
  have hgl := h.lt
  have c0 := (blk (i := 0) h.box rfl).1
  have hne := h.ne
  clear hl
  go_enter Try.func50, Try.ntmps50
  go_wp2_with (first | (at_builtin; refine app_list (e' := 115) elemGate rfl _ _ rfl B v n (intVals z) rfl h0.own w.heap.size 1 1 _ (0, 0) rfl (heap_alloc_new w _) rfl (oneCell_i64 [_, _, _]) (by omega) (by unfold maxLen; omega) (by omega) (by simp; omega) (w.heap.size + 1) (by simp) ?_))
  intro g5 e5 w5 ho5 hg5 hat5 hl5
  obtain ⟨a5, f5⟩ := blk (i := 0) (heap_grown h0.box hg5 hne) rfl
  obtain ⟨p1, p2⟩ := h0.put ho5 hg5 hat5 (by simp)
  have q1 := Lib.hid p1
  have q2 := Lib.hid (t0.trans p2)
  have e1 := (blk (i := 0) p1.box rfl).1
  clear p1 p2 ho5 hg5 hat5 hl5 c0 h0 t0
  go_wp2_with fail
  go_ret
  exact ⟨_, ret_int (by omega), q1.out, q2.out⟩
end Go.Proofs.Ytbbdmgomcpmhpaa

namespace Go.Proofs.Ytbbdmgomcpmhpaa
open Go Go.RowKit
theorem impl_constant (B g n : Nat) (v : Value) (v1 : Rest) (z : List Int) (bit : Int) (w : World) (h : Cir B g w v v1 n z) (hB : B ≤ w.heap.size) (hn : n ≤ 1000000) :
    Calls Try.prog 81 #[.pointer (some ⟨g, 0, none⟩), .int .i64 bit] w (PutW B g v1 (n + 1) (putG z 2 bit 0) (nG z) v w) := by
  go_enter Try.func81, Try.ntmps81
  go_wp2_with fail
  refine (impl_appendGate B g n v v1 z 2 bit 0 w h hB (by omega)).mono ?_
  rintro e w1 ⟨v', rfl, h1, t1⟩
  have H1 := Lib.hid h1
  have T1 := Lib.hid t1
  clear h h1 t1
  go_wp2_with fail
  go_ret
  exact ⟨v', rfl, H1.out, T1.out⟩
theorem impl_xor (B g n : Nat) (v : Value) (v1 : Rest) (z : List Int) (a b : Int) (w : World) (h : Cir B g w v v1 n z) (hB : B ≤ w.heap.size) (hn : n ≤ 1000000) :
    Calls Try.prog 84 #[.pointer (some ⟨g, 0, none⟩), .int .i64 a, .int .i64 b] w (PutW B g v1 (n + 1) (putG z 3 a b) (nG z) v w) := by
  go_enter Try.func84, Try.ntmps84
  go_wp2_with fail
  refine (impl_appendGate B g n v v1 z 3 a b w h hB (by omega)).mono ?_
  rintro e w1 ⟨v', rfl, h1, t1⟩
  have H1 := Lib.hid h1
  have T1 := Lib.hid t1
  clear h h1 t1
  go_wp2_with fail
  go_ret
  exact ⟨v', rfl, H1.out, T1.out⟩
theorem impl_and (B g n : Nat) (v : Value) (v1 : Rest) (z : List Int) (a b : Int) (w : World) (h : Cir B g w v v1 n z) (hB : B ≤ w.heap.size) (hn : n ≤ 1000000) :
    Calls Try.prog 85 #[.pointer (some ⟨g, 0, none⟩), .int .i64 a, .int .i64 b] w (PutW B g v1 (n + 1) (putG z 4 a b) (nG z) v w) := by
  go_enter Try.func85, Try.ntmps85
  go_wp2_with fail
  refine (impl_appendGate B g n v v1 z 4 a b w h hB (by omega)).mono ?_
  rintro e w1 ⟨v', rfl, h1, t1⟩
  have H1 := Lib.hid h1
  have T1 := Lib.hid t1
  clear h h1 t1
  go_wp2_with fail
  go_ret
  exact ⟨v', rfl, H1.out, T1.out⟩
theorem impl_not (B g n : Nat) (v : Value) (v1 : Rest) (z : List Int) (a : Int) (w : World) (h : Cir B g w v v1 n z) (hB : B ≤ w.heap.size) (hn : n ≤ 1000000) :
    Calls Try.prog 122 #[.pointer (some ⟨g, 0, none⟩), .int .i64 a] w (PutW B g v1 (n + 1) (putG z 5 a 0) (nG z) v w) := by
  go_enter Try.func122, Try.ntmps122
  go_wp2_with fail
  refine (impl_appendGate B g n v v1 z 5 a 0 w h hB (by omega)).mono ?_
  rintro e w1 ⟨v', rfl, h1, t1⟩
  have H1 := Lib.hid h1
  have T1 := Lib.hid t1
  clear h h1 t1
  go_wp2_with fail
  go_ret
  exact ⟨v', rfl, H1.out, T1.out⟩
set_option maxHeartbeats 1000000 in
theorem impl_fullAdder (B g n : Nat) (v : Value) (v1 : Rest) (z : List Int) (a b c : Int) (w : World) (h : Cir B g w v v1 n z) (hB : B ≤ w.heap.size) (hn : n ≤ 999000) :
    Calls Try.prog 123 #[.pointer (some ⟨g, 0, none⟩), .int .i64 a, .int .i64 b, .int .i64 c] w (PutP B g v1 (n + 5) (fullA z a b c).1 (fullA z a b c).2.1 (fullA z a b c).2.2 v w) := by
  obtain ⟨z1, hz1⟩ : ∃ y, putG z 3 a c = y := ⟨_, rfl⟩
  obtain ⟨z2, hz2⟩ : ∃ y, putG z1 3 b c = y := ⟨_, rfl⟩
  obtain ⟨x1, hx1⟩ : ∃ y, nG z = y := ⟨_, rfl⟩
  obtain ⟨x2, hx2⟩ : ∃ y, nG z1 = y := ⟨_, rfl⟩
  obtain ⟨z3, hz3⟩ : ∃ y, putG z2 3 a x2 = y := ⟨_, rfl⟩
  obtain ⟨x3, hx3⟩ : ∃ y, nG z2 = y := ⟨_, rfl⟩
  obtain ⟨z4, hz4⟩ : ∃ y, putG z3 4 x1 x2 = y := ⟨_, rfl⟩
  obtain ⟨x4, hx4⟩ : ∃ y, nG z3 = y := ⟨_, rfl⟩
  obtain ⟨z5, hz5⟩ : ∃ y, putG z4 3 x4 c = y := ⟨_, rfl⟩
  obtain ⟨x5, hx5⟩ : ∃ y, nG z4 = y := ⟨_, rfl⟩
  have E := Lib.hid (show fullA z a b c = (z5, x3, x5) by subst hz5 hx5 hz4 hx4 hz3 hx3 hx2 hx1 hz2 hz1; rfl)
  have c1 := impl_xor B g n v v1 z a c
  rw [hz1, hx1] at c1
  have K2 := Lib.hid (fun u W (H : Cir B g W u v1 (n + 1) z1) HB => by simpa only [hz2, hx2] using impl_xor B g (n + 1) u v1 z1 b c W H HB (by omega))
  have K3 := Lib.hid (fun u W (H : Cir B g W u v1 (n + 1 + 1) z2) HB => by simpa only [hz3, hx3] using impl_xor B g (n + 1 + 1) u v1 z2 a x2 W H HB (by omega))
  have K4 := Lib.hid (fun u W (H : Cir B g W u v1 (n + 1 + 1 + 1) z3) HB => by simpa only [hz4, hx4] using impl_and B g (n + 1 + 1 + 1) u v1 z3 x1 x2 W H HB (by omega))
  have K5 := Lib.hid (fun u W (H : Cir B g W u v1 (n + 1 + 1 + 1 + 1) z4) HB => by simpa only [hz5, hx5] using impl_xor B g (n + 1 + 1 + 1 + 1) u v1 z4 x4 c W H HB (by omega))
  clear hz1 hz2 hx1 hx2 hz3 hx3 hz4 hx4 hz5 hx5
  rw [E.out]
  go_enter Try.func123, Try.ntmps123
  go_wp2_with fail
  refine (c1 w h hB (by omega)).mono ?_
  rintro e w1 ⟨u1, rfl, h1, t⟩
  have B1 := Nat.le_trans hB t.size
  clear c1 h
  go_wp2_with fail
  refine (K2.out u1 w1 h1 B1).mono ?_
  rintro e w2 ⟨u2, rfl, h2, t2⟩
  have B2 := Nat.le_trans B1 t2.size
  replace t := t.trans t2
  clear h1 t2 B1 K2
  go_wp2_with fail
  refine (K3.out u2 w2 h2 B2).mono ?_
  rintro e w3 ⟨u3, rfl, h3, t3⟩
  have B3 := Nat.le_trans B2 t3.size
  replace t := t.trans t3
  clear h2 t3 B2 K3
  go_wp2_with fail
  refine (K4.out u3 w3 h3 B3).mono ?_
  rintro e w4 ⟨u4, rfl, h4, t4⟩
  have B4 := Nat.le_trans B3 t4.size
  replace t := t.trans t4
  clear h3 t4 B3 K4
  go_wp2_with fail
  refine (K5.out u4 w4 h4 B4).mono ?_
  rintro e w5 ⟨u5, rfl, h5, t5⟩
  have T := Lib.hid (t.trans t5)
  have H := Lib.hid h5
  clear h4 t5 B4 K5 h5 t
  go_wp2_with fail
  go_returns
  exact ⟨_, rfl, H.out, T.out⟩
set_option maxHeartbeats 1000000 in
theorem spec_fullAdder (B g n : Nat) (v : Value) (v1 : Rest) (z : List Int) (a b c : Int) (w : World) (h : Cir B g w v v1 n z) (hB : B ≤ w.heap.size) (hn : n ≤ 999000) :
    Calls Try.prog 78 #[.pointer (some ⟨g, 0, none⟩), .int .i64 a, .int .i64 b, .int .i64 c] w (PutP B g v1 (n + 5) (fullA z a b c).1 (fullA z a b c).2.1 (fullA z a b c).2.2 v w) := by
  obtain ⟨z1, hz1⟩ : ∃ y, putG z 3 a c = y := ⟨_, rfl⟩
  obtain ⟨z2, hz2⟩ : ∃ y, putG z1 3 b c = y := ⟨_, rfl⟩
  obtain ⟨x1, hx1⟩ : ∃ y, nG z = y := ⟨_, rfl⟩
  obtain ⟨x2, hx2⟩ : ∃ y, nG z1 = y := ⟨_, rfl⟩
  obtain ⟨z3, hz3⟩ : ∃ y, putG z2 3 a x2 = y := ⟨_, rfl⟩
  obtain ⟨x3, hx3⟩ : ∃ y, nG z2 = y := ⟨_, rfl⟩
  obtain ⟨z4, hz4⟩ : ∃ y, putG z3 4 x1 x2 = y := ⟨_, rfl⟩
  obtain ⟨x4, hx4⟩ : ∃ y, nG z3 = y := ⟨_, rfl⟩
  obtain ⟨z5, hz5⟩ : ∃ y, putG z4 3 x4 c = y := ⟨_, rfl⟩
  obtain ⟨x5, hx5⟩ : ∃ y, nG z4 = y := ⟨_, rfl⟩
  have E := Lib.hid (show fullA z a b c = (z5, x3, x5) by subst hz5 hx5 hz4 hx4 hz3 hx3 hx2 hx1 hz2 hz1; rfl)
  have c1 := spec_l14Put B g n v v1 z 3 a c
  rw [hz1, hx1] at c1
  have K2 := Lib.hid (fun u W (H : Cir B g W u v1 (n + 1) z1) HB => by simpa only [hz2, hx2] using spec_l14Put B g (n + 1) u v1 z1 3 b c W H HB (by omega))
  have K3 := Lib.hid (fun u W (H : Cir B g W u v1 (n + 1 + 1) z2) HB => by simpa only [hz3, hx3] using spec_l14Put B g (n + 1 + 1) u v1 z2 3 a x2 W H HB (by omega))
  have K4 := Lib.hid (fun u W (H : Cir B g W u v1 (n + 1 + 1 + 1) z3) HB => by simpa only [hz4, hx4] using spec_l14Put B g (n + 1 + 1 + 1) u v1 z3 4 x1 x2 W H HB (by omega))
  have K5 := Lib.hid (fun u W (H : Cir B g W u v1 (n + 1 + 1 + 1 + 1) z4) HB => by simpa only [hz5, hx5] using spec_l14Put B g (n + 1 + 1 + 1 + 1) u v1 z4 3 x4 c W H HB (by omega))
  clear hz1 hz2 hx1 hx2 hz3 hx3 hz4 hx4 hz5 hx5
  rw [E.out]
  go_enter Try.func78, Try.ntmps78
  go_wp2_with fail
  refine (c1 w h hB (by omega)).mono ?_
  rintro e w1 ⟨u1, rfl, h1, t⟩
  have B1 := Nat.le_trans hB t.size
  clear c1 h
  go_wp2_with fail
  refine (K2.out u1 w1 h1 B1).mono ?_
  rintro e w2 ⟨u2, rfl, h2, t2⟩
  have B2 := Nat.le_trans B1 t2.size
  replace t := t.trans t2
  clear h1 t2 B1 K2
  go_wp2_with fail
  refine (K3.out u2 w2 h2 B2).mono ?_
  rintro e w3 ⟨u3, rfl, h3, t3⟩
  have B3 := Nat.le_trans B2 t3.size
  replace t := t.trans t3
  clear h2 t3 B2 K3
  go_wp2_with fail
  refine (K4.out u3 w3 h3 B3).mono ?_
  rintro e w4 ⟨u4, rfl, h4, t4⟩
  have B4 := Nat.le_trans B3 t4.size
  replace t := t.trans t4
  clear h3 t4 B3 K4
  go_wp2_with fail
  refine (K5.out u4 w4 h4 B4).mono ?_
  rintro e w5 ⟨u5, rfl, h5, t5⟩
  have T := Lib.hid (t.trans t5)
  have H := Lib.hid h5
  clear h4 t5 B4 K5 h5 t
  go_wp2_with fail
  go_returns
  exact ⟨_, rfl, H.out, T.out⟩
end Go.Proofs.Ytbbdmgomcpmhpaa

namespace Go.Proofs.Ytbbdmgomcpmhpaa
open Go Go.RowKit
theorem bit_fin : ∀ p : Fin 4, ∀ x : Fin 16, bits BinOp.and IntKind.i64 ((x.val : Int) / 2 ^ p.val) 1 = (x.val : Int) / 2 ^ p.val % 2 := by decide +kernel
theorem bit_at {p : Nat} (hp : p < 4) {x : Int} (hx : 0 ≤ x ∧ x ≤ 15) : bits BinOp.and IntKind.i64 (x / 2 ^ p) 1 = x / 2 ^ p % 2 := by
  have h := bit_fin ⟨p, hp⟩ ⟨x.toNat, by omega⟩
  simp only at h
  rwa [Int.toNat_of_nonneg hx.1] at h
set_option maxRecDepth 100000 in
set_option maxHeartbeats 1000000 in
theorem impl_number (B g n : Nat) (v : Value) (v1 : Rest) (z : List Int) (N : Int) (hN : 0 ≤ N ∧ N ≤ 15) (w : World) (h : Cir B g w v v1 n z) (hB : B ≤ w.heap.size) (hn : n ≤ 999000) :
    Calls Try.prog 60 #[.pointer (some ⟨g, 0, none⟩), .int .i64 N] w (PutL B g v1 (n + 4) (constAt z N 4).1 (constAt z N 4).2 v w) := by
  have hgl := h.lt
  go_enter Try.func60, Try.ntmps60
  go_wp2_with (first | (refine make_list elemInt rfl _ _ rfl w.heap.size _ _ 4 4 rfl rfl (by omega) (by omega) (by unfold maxLen; omega) (Nat.le_refl _) ?_))
  intro w3 hown3 hg3
  have hb3 : Below w.heap.size w w3 := (Below.refl _ _).grown hg3 (Nat.le_refl _) (fun k h => by cases h)
  have S0 := Lib.hid (show Bl B g v w w3 v v1 n z _ 0 [] from ⟨h.below hb3, (Turn.refl g v w).below hb3, Wl.fresh (us := []) h hown3 (Nat.le_refl _)⟩)
  clear hown3 hg3 h hb3
  go_wp2_with fail
  go_loopw [5, 8] (fun u i wr => ∃ (k : Nat) (v' : Value), k ≤ 4 ∧ i = .int .i64 k ∧ Bl B g v w wr v' v1 (n + k) (constAt z N k).1 u k (constAt z N k).2) (fun _ i _ => 4 - (intOf i).toNat)
  case atStart => exact ⟨0, v, by omega, rfl, S0.out⟩
  case round =>
    obtain ⟨k, v', hk, rfl, hs⟩ := hrel
    clear S0
    by_cases hlt : k < 4
    · have k0 : (0 : Int) ≤ k := by omega
      have k1 : (k : Int) < 4 := by omega
      have hbit := bit_at hlt hN
      have B1 := Nat.le_trans hB hs.size
      go_wp2_with fail
      refine (impl_constant B g (n + k) v' v1 (constAt z N k).1 (N / 2 ^ k % 2) wr hs.cir B1 (by omega)).mono ?_
      rintro e w4 ⟨v4, rfl, h4, t4⟩
      have h5 := hs.next h4 t4
      have sz := h5.size
      clear h4 t4 hs
      go_wp2_with (first | (at_builtin; refine app_list (e' := 3) elemInt rfl _ _ rfl w.heap.size _ k (intVals (constAt z N k).2) rfl (h5.alloc (.cells #[.int .i64 (nG (constAt z N k).1)] 3)).wl.own w4.heap.size 1 1 _ (0, 0) rfl (heap_alloc_new w4 _) rfl (oneCell_i64 [_]) (by omega) (by unfold maxLen; omega) (by omega) (by simp; omega) (w4.heap.size + 1) (by simp) ?_))
      intro g5 c5 w5 ho5 hg5 hat5 _
      have H := Lib.hid (h5.app ho5 hg5 hat5)
      clear h5 ho5 hg5 hat5
      go_wp2_with fail
      go_roundw
      case rel => exact ⟨k + 1, v4, by omega, by go_num, H.out⟩
      case measure => simp [intOf]; omega
    · obtain rfl : k = 4 := by omega
      obtain ⟨A, c, rfl⟩ := hs.wl.form
      have H := Lib.hid hs
      clear hs
      go_wp2_with fail
      go_ret
      exact ⟨v', A, 4, c, rfl, H.out.wl.len, H.out.cir, H.out.turn, H.out.wl⟩
set_option maxRecDepth 100000 in
set_option maxHeartbeats 1000000 in
theorem impl_notEach (B g n : Nat) (v : Value) (v1 : Rest) (z : List Int) (A : Option Addr) (m c : Nat) (ws : List Int) (w : World) (h : Cir B g w v v1 n z) (hB : B ≤ w.heap.size) (ho : Off g v w A ws) (lw : ws.length = m) (hm : m ≤ 1000) (hn : n ≤ 990000) :
    Calls Try.prog 115 #[.pointer (some ⟨g, 0, none⟩), .slice A m c] w (PutL B g v1 (n + m) (notsAt z ws m).1 (notsAt z ws m).2 v w) := by
  go_enter Try.func115, Try.ntmps115
  go_wp2_with (first | (refine make_list elemInt rfl _ _ rfl w.heap.size _ _ m m rfl rfl (by omega) (by omega) (by unfold maxLen; omega) (Nat.le_refl _) ?_))
  intro w3 hown3 hg3
  have hb3 : Below w.heap.size w w3 := (Below.refl _ _).grown hg3 (Nat.le_refl _) (fun k h => by cases h)
  have S0 := Lib.hid (show Bl B g v w w3 v v1 n z _ 0 [] from ⟨h.below hb3, (Turn.refl g v w).below hb3, Wl.fresh (us := []) h hown3 (Nat.le_refl _)⟩)
  have LW := Lib.hid lw
  clear hown3 hg3 h hb3 lw
  go_wp2_with fail
  go_loopw [5, 13] (fun u i wr => ∃ (k : Nat) (v' : Value), k ≤ m ∧ i = .int .i64 k ∧ Bl B g v w wr v' v1 (n + k) (notsAt z ws k).1 u k (notsAt z ws k).2) (fun _ i _ => m - (intOf i).toNat)
  case atStart => exact ⟨0, v, by omega, rfl, S0.out⟩
  case round =>
    obtain ⟨k, v', hk, rfl, hs⟩ := hrel
    clear S0
    by_cases hlt : k < m
    · have k0 : (0 : Int) ≤ k := by omega
      have k1 : (k : Int) < m := by omega
      obtain ⟨b, o, rfl, q0⟩ := (ho.turn hs.turn).at_ (j := k) (by rw [LW.out]; exact hlt)
      have B1 := Nat.le_trans hB hs.size
      clear ho
      go_wp2_with fail
      refine (impl_not B g (n + k) v' v1 (notsAt z ws k).1 (ws.getD k 0) wr hs.cir B1 (by omega)).mono ?_
      rintro e w4 ⟨v4, rfl, h4, t4⟩
      have h5 := hs.next h4 t4
      have sz := h5.size
      clear h4 t4 hs
      go_wp2_with (first | (at_builtin; refine app_list (e' := 3) elemInt rfl _ _ rfl w.heap.size _ k (intVals (notsAt z ws k).2) rfl (h5.alloc (.cells #[.int .i64 (nG (notsAt z ws k).1)] 3)).wl.own w4.heap.size 1 1 _ (0, 0) rfl (heap_alloc_new w4 _) rfl (oneCell_i64 [_]) (by omega) (by unfold maxLen; omega) (by omega) (by simp; omega) (w4.heap.size + 1) (by simp) ?_))
      intro g5 c5 w5 ho5 hg5 hat5 _
      have H := Lib.hid (h5.app ho5 hg5 hat5)
      clear h5 ho5 hg5 hat5
      go_wp2_with fail
      go_roundw
      case rel => exact ⟨k + 1, v4, by omega, by go_num, H.out⟩
      case measure => simp [intOf]; omega
    · obtain rfl : k = m := by omega
      obtain ⟨A, c, rfl⟩ := hs.wl.form
      have H := Lib.hid hs
      clear hs
      go_wp2_with fail
      go_ret
      exact ⟨v', A, k, c, rfl, H.out.wl.len, H.out.cir, H.out.turn, H.out.wl⟩
set_option maxRecDepth 100000 in
set_option maxHeartbeats 1000000 in
theorem impl_andEach (B g n : Nat) (v : Value) (v1 : Rest) (z : List Int) (b : Int) (A : Option Addr) (m c : Nat) (ws : List Int) (w : World) (h : Cir B g w v v1 n z) (hB : B ≤ w.heap.size) (ho : Off g v w A ws) (lw : ws.length = m) (hm : m ≤ 1000) (hn : n ≤ 990000) :
    Calls Try.prog 116 #[.pointer (some ⟨g, 0, none⟩), .int .i64 b, .slice A m c] w (PutL B g v1 (n + m) (prodAt z b ws m).1 (prodAt z b ws m).2 v w) := by
  go_enter Try.func116, Try.ntmps116
  go_wp2_with (first | (refine make_list elemInt rfl _ _ rfl w.heap.size _ _ m m rfl rfl (by omega) (by omega) (by unfold maxLen; omega) (Nat.le_refl _) ?_))
  intro w3 hown3 hg3
  have hb3 : Below w.heap.size w w3 := (Below.refl _ _).grown hg3 (Nat.le_refl _) (fun k h => by cases h)
  have S0 := Lib.hid (show Bl B g v w w3 v v1 n z _ 0 [] from ⟨h.below hb3, (Turn.refl g v w).below hb3, Wl.fresh (us := []) h hown3 (Nat.le_refl _)⟩)
  have LW := Lib.hid lw
  clear hown3 hg3 h hb3 lw
  go_wp2_with fail
  go_loopw [7, 15] (fun u i wr => ∃ (k : Nat) (v' : Value), k ≤ m ∧ i = .int .i64 k ∧ Bl B g v w wr v' v1 (n + k) (prodAt z b ws k).1 u k (prodAt z b ws k).2) (fun _ i _ => m - (intOf i).toNat)
  case atStart => exact ⟨0, v, by omega, rfl, S0.out⟩
  case round =>
    obtain ⟨k, v', hk, rfl, hs⟩ := hrel
    clear S0
    by_cases hlt : k < m
    · have k0 : (0 : Int) ≤ k := by omega
      have k1 : (k : Int) < m := by omega
      obtain ⟨_, o, rfl, q0⟩ := (ho.turn hs.turn).at_ (j := k) (by rw [LW.out]; exact hlt)
      have B1 := Nat.le_trans hB hs.size
      clear ho
      go_wp2_with fail
      refine (impl_and B g (n + k) v' v1 (prodAt z b ws k).1 b (ws.getD k 0) wr hs.cir B1 (by omega)).mono ?_
      rintro e w4 ⟨v4, rfl, h4, t4⟩
      have h5 := hs.next h4 t4
      have sz := h5.size
      clear h4 t4 hs
      go_wp2_with (first | (at_builtin; refine app_list (e' := 3) elemInt rfl _ _ rfl w.heap.size _ k (intVals (prodAt z b ws k).2) rfl (h5.alloc (.cells #[.int .i64 (nG (prodAt z b ws k).1)] 3)).wl.own w4.heap.size 1 1 _ (0, 0) rfl (heap_alloc_new w4 _) rfl (oneCell_i64 [_]) (by omega) (by unfold maxLen; omega) (by omega) (by simp; omega) (w4.heap.size + 1) (by simp) ?_))
      intro g5 c5 w5 ho5 hg5 hat5 _
      have H := Lib.hid (h5.app ho5 hg5 hat5)
      clear h5 ho5 hg5 hat5
      go_wp2_with fail
      go_roundw
      case rel => exact ⟨k + 1, v4, by omega, by go_num, H.out⟩
      case measure => simp [intOf]; omega
    · obtain rfl : k = m := by omega
      obtain ⟨A, c, rfl⟩ := hs.wl.form
      have H := Lib.hid hs
      clear hs
      go_wp2_with fail
      go_ret
      exact ⟨v', A, k, c, rfl, H.out.wl.len, H.out.cir, H.out.turn, H.out.wl⟩
/-- Full adders of the first places from a carry on: the gates, the sums, the next carry. -/
def faAt (z us bs : List Int) (c : Int) : Nat → List Int × List Int × Int
  | 0 => (z, [], c)
  | i + 1 =>
    let r := faAt z us bs c i
    let f := fullA r.1 (us.getD i 0) (bs.getD i 0) r.2.2
    (f.1, r.2.1 ++ [f.2.1], f.2.2)
theorem sumAt_fa (z us bs : List Int) (first : Int) (m : Nat) : sumAt z us bs first m = faAt (putG z 2 first 0) us bs (nG z) m := by
  induction m with
  | zero => rfl
  | succ m ih => rw [sumAt, ih]; rfl
theorem carryAt_fa (z us bs : List Int) (m : Nat) : carryAt z us bs m = ((faAt (putG z 2 1 0) us bs (nG z) m).1, (faAt (putG z 2 1 0) us bs (nG z) m).2.2) := by
  induction m with
  | zero => rfl
  | succ m ih => rw [carryAt, ih]; rfl
theorem notsAt_length (z bs : List Int) (m : Nat) : (notsAt z bs m).2.length = m := by
  induction m with
  | zero => rfl
  | succ m ih => simp [notsAt, ih]
theorem prodAt_length (z : List Int) (b : Int) (us : List Int) (m : Nat) : (prodAt z b us m).2.length = m := by
  induction m with
  | zero => rfl
  | succ m ih => simp [prodAt, ih]
theorem xnorAt_length (z us bs : List Int) (m : Nat) : (xnorAt z us bs m).2.length = m := by
  induction m with
  | zero => rfl
  | succ m ih => simp [xnorAt, ih]
theorem faAt_length (z us bs : List Int) (c : Int) (m : Nat) : (faAt z us bs c m).2.1.length = m := by
  induction m with
  | zero => rfl
  | succ m ih => simp [faAt, ih]
theorem zeros_set {xs : List Int} {k m : Nat} (x : Int) (h : xs.length = k) (hk : k < m) : (xs ++ List.replicate (m - k) 0).set k x = (xs ++ [x]) ++ List.replicate (m - (k + 1)) 0 := by
  obtain ⟨d, rfl⟩ : ∃ d, m = k + (d + 1) := ⟨m - (k + 1), by omega⟩
  rw [show k + (d + 1) - k = d + 1 by omega, show k + (d + 1) - (k + 1) = d by omega, List.replicate_succ, List.set_append_right _ _ (by omega), h, Nat.sub_self]
  simp
theorem zeros_vals (m : Nat) : List.replicate m (Value.int .i64 0) = intVals (List.replicate m 0) := by simp [intVals]
set_option maxRecDepth 100000 in
set_option maxHeartbeats 2000000 in
theorem impl_fullAdders (B g n : Nat) (v : Value) (v1 : Rest) (z : List Int) (A : Option Addr) (m c : Nat) (us : List Int) (A' : Option Addr) (m' c' : Nat) (ws : List Int) (cy : Int) (w : World) (h : Cir B g w v v1 n z) (hB : B ≤ w.heap.size) (ho : Off g v w A us) (lu : us.length = m) (ho' : Off g v w A' ws) (lw : ws.length = m') (hmm : m ≤ m') (hm : m ≤ 1000) (hn : n ≤ 990000) :
    Calls Try.prog 121 #[.pointer (some ⟨g, 0, none⟩), .slice A m c, .slice A' m' c', .int .i64 cy] w (PutLP B g v1 (n + 5 * m) (faAt z us ws cy m).1 (faAt z us ws cy m).2.1 (faAt z us ws cy m).2.2 v w) := by
  go_enter Try.func121, Try.ntmps121
  go_wp2_with (first | (refine make_fullI Try.underlying25 infoInt rfl rfl _ _ rfl w.heap.size _ _ _ _ m rfl rfl rfl rfl (by omega) (by unfold maxLen; omega) (Nat.le_refl _) ?_))
  intro w3 hown3 hg3
  have hb3 : Below w.heap.size w w3 := (Below.refl _ _).grown hg3 (Nat.le_refl _) (fun k h => by cases h)
  rw [zeros_vals] at hown3
  have S0 := Lib.hid (show Bl B g v w w3 v v1 n z _ m (List.replicate m 0) from ⟨h.below hb3, (Turn.refl g v w).below hb3, Wl.fresh h hown3 (Nat.le_refl _)⟩)
  have LU := Lib.hid lu
  have LW := Lib.hid lw
  clear hown3 hg3 h hb3 lw lu
  go_wp2_with fail
  go_loopw [3, 17] (fun q i wr => ∃ (k : Nat) (v' : Value), k ≤ m ∧ i = .int .i64 k ∧ q = .int .i64 (faAt z us ws cy k).2.2 ∧ Bl B g v w wr v' v1 (n + 5 * k) (faAt z us ws cy k).1 (.slice (some ⟨w.heap.size, 0, none⟩) m m) m ((faAt z us ws cy k).2.1 ++ List.replicate (m - k) 0)) (fun _ i _ => m - (intOf i).toNat)
  case atStart => exact ⟨0, v, by omega, rfl, rfl, S0.out⟩
  case round =>
    obtain ⟨k, v', hk, rfl, rfl, hs⟩ := hrel
    clear S0
    by_cases hlt : k < m
    · have k0 : (0 : Int) ≤ k := by omega
      have k1 : (k : Int) < m := by omega
      have k2 : (k : Int) < m' := by omega
      obtain ⟨b, o, rfl, q0⟩ := (ho.turn hs.turn).at_ (j := k) (by rw [LU.out]; exact hlt)
      obtain ⟨b', o', rfl, q1⟩ := (ho'.turn hs.turn).at_ (j := k) (by rw [LW.out]; omega)
      have B1 := Nat.le_trans hB hs.size
      have hsd := hs.drew
      have B2 : B ≤ wr.drew.heap.size := B1
      have Hset := Lib.hid (zeros_set (m := m) (fullA (faAt z us ws cy k).1 (us.getD k 0) (ws.getD k 0) (faAt z us ws cy k).2.2).2.1 (faAt_length z us ws cy k) hlt)
      have c5 := impl_fullAdder B g (n + 5 * k) v' v1 (faAt z us ws cy k).1 (us.getD k 0) (ws.getD k 0) (faAt z us ws cy k).2.2
      have HN := Lib.hid (show faAt z us ws cy (k + 1) = ((fullA (faAt z us ws cy k).1 (us.getD k 0) (ws.getD k 0) (faAt z us ws cy k).2.2).1, (faAt z us ws cy k).2.1 ++ [(fullA (faAt z us ws cy k).1 (us.getD k 0) (ws.getD k 0) (faAt z us ws cy k).2.2).2.1], (fullA (faAt z us ws cy k).1 (us.getD k 0) (ws.getD k 0) (faAt z us ws cy k).2.2).2.2) from rfl)
      generalize fullA (faAt z us ws cy k).1 (us.getD k 0) (ws.getD k 0) (faAt z us ws cy k).2.2 = F at c5 HN Hset
      generalize us.getD k 0 = ux at *
      generalize ws.getD k 0 = wx at *
      generalize faAt z us ws cy k = R at *
      clear ho ho'
      go_upto_region 5 with (fail)
      go_region_law (go_simp; go_at_call 123; (with_reducible refine (c5 _ hsd.cir B2 (by omega)).mono ?_); rintro e w4 ⟨v4, rfl, h4, t4⟩; (have h5 := hsd.next h4 t4); (obtain ⟨d0, d1⟩ := h5.wl.at_ hlt))
      all_goals
        have H := Lib.hid (h5.set k F.2.1)
        have sz := h5.size
        clear h4 t4 hs hsd h5 d0 d1
        go_wp2_with fail
        go_roundw
        case rel => exact ⟨k + 1, v4, by omega, by go_num, by rw [HN.out], by rw [HN.out, ← Hset.out, show n + 5 * (k + 1) = n + 5 * k + 5 by omega]; exact H.out⟩
        case measure => simp [intOf]; omega
    · obtain rfl : k = m := by omega
      rw [Nat.sub_self, List.replicate_zero, List.append_nil] at hs
      have H := Lib.hid hs
      clear hs
      go_wp2_with fail
      go_returns
      exact ⟨v', _, k, k, rfl, H.out.wl.len, H.out.cir, H.out.turn, H.out.wl⟩
end Go.Proofs.Ytbbdmgomcpmhpaa

namespace Go.Proofs.Ytbbdmgomcpmhpaa
open Go Go.RowKit
/-- The sum of two lists of m + 1 wires and a carry. -/
def addA (z us bs : List Int) (c : Int) (m : Nat) : List Int × List Int :=
  let r := faAt z us bs c m
  let z1 := putG r.1 3 (us.getD m 0) (bs.getD m 0)
  (putG z1 3 (nG r.1) r.2.2, r.2.1 ++ [nG z1])
theorem sumA_add (z us bs : List Int) (f : Int) (m : Nat) : sumA z us bs f m = addA (putG z 2 f 0) us bs (nG z) m := by
  unfold sumA
  rw [sumAt_fa]
  rfl
theorem take_getD {us : List Int} {m i : Nat} (h : i < m) : (us.take m).getD i 0 = us.getD i 0 := by
  rw [List.getD_eq_getElem?_getD, List.getElem?_take_of_lt h, ← List.getD_eq_getElem?_getD]
theorem faAt_take (z us bs : List Int) (c : Int) (m : Nat) : ∀ k, k ≤ m → faAt z (us.take m) (bs.take m) c k = faAt z us bs c k := by
  intro k
  induction k with
  | zero => exact fun _ => rfl
  | succ k ih => intro h; rw [faAt, faAt, ih (by omega), take_getD (by omega), take_getD (by omega)]
set_option maxRecDepth 100000 in
set_option maxHeartbeats 2000000 in
theorem impl_addFrom (B g n : Nat) (v : Value) (v1 : Rest) (z : List Int) (A : Option Addr) (m c : Nat) (us : List Int) (A' : Option Addr) (c' : Nat) (ws : List Int) (cy : Int) (w : World) (h : Cir B g w v v1 n z) (hB : B ≤ w.heap.size) (ho : Off g v w A us) (lu : us.length = m + 1) (hc : m + 1 ≤ c) (ho' : Off g v w A' ws) (lw : ws.length = m + 1) (hc' : m + 1 ≤ c') (hm : m ≤ 900) (hn : n ≤ 980000) :
    Calls Try.prog 114 #[.pointer (some ⟨g, 0, none⟩), .slice A (m + 1) c, .slice A' (m + 1) c', .int .i64 cy] w (PutL B g v1 (n + 5 * m + 2) (addA z us ws cy m).1 (addA z us ws cy m).2 v w) := by
  obtain ⟨b, o, rfl, q0⟩ := ho.at_ (j := m) (by rw [lu]; omega)
  obtain ⟨b', o', rfl, q1⟩ := ho'.at_ (j := m) (by rw [lw]; omega)
  have k0 : ((m + 1 : Nat) : Int) - 1 = (m : Int) := by omega
  have k1 : (m : Int) ≤ (c : Int) := by omega
  have k2 : (m : Int) ≤ (c' : Int) := by omega
  have k3 : (m : Int) < ((m + 1 : Nat) : Int) := by omega
  have hB2 : B ≤ w.drew.heap.size := hB
  have hF := impl_fullAdders B g n v v1 z (some ⟨b, o, none⟩) m c (us.take m) (some ⟨b', o', none⟩) m c' (ws.take m) cy w.drew h.drew hB2 (ho.cut m) (by rw [List.length_take]; omega) (ho'.cut m) (by rw [List.length_take]; omega) (Nat.le_refl _) (by omega) (by omega)
  rw [faAt_take z us ws cy m m (Nat.le_refl _)] at hF
  have LU := Lib.hid lu
  have LW := Lib.hid lw
  go_enter Try.func114, Try.ntmps114
  go_upto_region 2 with (fail)
  go_region_law (go_simp; go_at_call 121; (with_reducible refine hF.mono ?_); rintro e w4 ⟨v4, A4, k4, c4, rfl, l4, h4, t4, wl4⟩)
  all_goals
    obtain rfl : k4 = m := by rw [← l4, faAt_length]
    have hs : Bl B g v w w4 v4 v1 (n + 5 * k4) (faAt z us ws cy k4).1 (.slice A4 k4 c4) k4 (faAt z us ws cy k4).2.1 := ⟨h4, t4.ofDrew, wl4⟩
    clear q0 q1 h4 t4 wl4 l4 hF h
    obtain ⟨_, _, e1, q0⟩ := (ho.turn hs.turn).at_ (j := k4) (by rw [LU.out]; omega)
    injection e1 with e1; injection e1 with e11 e12; subst e11 e12
    obtain ⟨_, _, e1, q1⟩ := (ho'.turn hs.turn).at_ (j := k4) (by rw [LW.out]; omega)
    injection e1 with e1; injection e1 with e11 e12; subst e11 e12
    have E := Lib.hid (show addA z us ws cy k4 = (putG (putG (faAt z us ws cy k4).1 3 (us.getD k4 0) (ws.getD k4 0)) 3 (nG (faAt z us ws cy k4).1) (faAt z us ws cy k4).2.2, (faAt z us ws cy k4).2.1 ++ [nG (putG (faAt z us ws cy k4).1 3 (us.getD k4 0) (ws.getD k4 0))]) from rfl)
    generalize us.getD k4 0 = ux at *
    generalize ws.getD k4 0 = wx at *
    generalize faAt z us ws cy k4 = R at *
    have k5 : (0 : Int) ≤ (k4 : Int) := by omega
    have k6 : (k4 : Int) < (k4 : Int) + 1 := by omega
    have B1 := Nat.le_trans hB hs.size
    have hsd := hs.drew
    have B2 : B ≤ w4.drew.heap.size := B1
    have c5 := impl_xor B g (n + 5 * k4) v4 v1 R.1 ux wx
    have C6 := Lib.hid (fun u W (H : Cir B g W u v1 (n + 5 * k4 + 1) (putG R.1 3 ux wx)) HB => impl_xor B g (n + 5 * k4 + 1) u v1 (putG R.1 3 ux wx) (nG R.1) R.2.2 W H HB (by omega))
    clear ho ho' LU LW hs hB
    go_upto_region 3 with (fail)
    go_region_law (first
      | (refine app_step (e' := 3) elemInt (by rfl) _ _ (by rfl) w.heap.size (.slice A4 k4 c4) k4 (intVals R.2.1) (by rfl) (hs6.alloc (.cells #[.int .i64 (nG (putG R.1 3 ux wx))] 3)).wl.own w6.heap.size 1 1 _ (0, 0) (by rfl) (heap_alloc_new w6 _) (by rfl) (oneCell_i64 [_]) (by omega) (by unfold maxLen; omega) (by omega) (by simp; omega) (w6.heap.size + 1) (by simp) ?_; intro g5 e5 w7 ho5 hg5 hat5 hl5)
      | (go_simp; go_at_call 84; (with_reducible refine (c5 _ hsd.cir B2 (by omega)).mono ?_); rintro e w5 ⟨v5, rfl, h5, t5⟩; (have hs5 := hsd.next h5 t5); (have B5 := Nat.le_trans B2 t5.size))
      | (go_simp; go_at_call 84; (with_reducible refine (C6.out v5 _ hs5.cir B5).mono ?_); rintro e w6 ⟨v6, rfl, h6, t6⟩; (have hs6 := hs5.next h6 t6); (have sz6 := hs6.size)))
    all_goals
      have H := Lib.hid (hs6.app ho5 hg5 hat5)
      clear h5 t5 h6 t6 hs5 hs6 hsd ho5 hg5 hat5 hl5 C6 c5 q0 q1
      go_wp2_with fail
      go_ret
      exact ⟨v6, _, _, _, rfl, by rw [E.out]; exact H.out.wl.len, by rw [E.out]; exact H.out.cir, H.out.turn, by rw [E.out]; exact H.out.wl⟩
end Go.Proofs.Ytbbdmgomcpmhpaa

namespace Go.Proofs.Ytbbdmgomcpmhpaa
open Go Go.RowKit
set_option maxRecDepth 100000 in
theorem impl_sum (B g n : Nat) (v : Value) (v1 : Rest) (z : List Int) (A : Option Addr) (c : Nat) (us : List Int) (A' : Option Addr) (c' : Nat) (ws : List Int) (w : World) (h : Cir B g w v v1 n z) (hB : B ≤ w.heap.size) (ho : Off g v w A us) (lu : us.length = 4) (hc : 4 ≤ c) (ho' : Off g v w A' ws) (lw : ws.length = 4) (hc' : 4 ≤ c') (hn : n ≤ 970000) :
    Calls Try.prog 98 #[.pointer (some ⟨g, 0, none⟩), .slice A 4 c, .slice A' 4 c'] w (PutL B g v1 (n + 1 + 5 * 3 + 1 + 1) (sumA z us ws 0 3).1 (sumA z us ws 0 3).2 v w) := by
  have E := Lib.hid (sumA_add z us ws 0 3)
  have c2 := fun u W (H : Cir B g W u v1 (n + 1) (putG z 2 0 0)) HB K K' => impl_addFrom B g (n + 1) u v1 (putG z 2 0 0) A 3 c us A' c' ws (nG z) W H HB K lu hc K' lw hc' (by omega) (by omega)
  have c1 := impl_constant B g n v v1 z 0
  generalize nG z = x at *
  go_enter Try.func98, Try.ntmps98
  go_wp2_with fail
  refine (c1 w h hB (by omega)).mono ?_
  rintro e w1 ⟨u1, rfl, h1, t1⟩
  have B1 := Nat.le_trans hB t1.size
  have o1 := ho.turn t1
  have o2 := ho'.turn t1
  clear h ho ho'
  go_wp2_with fail
  refine (c2 u1 w1 h1 B1 o1 o2).mono ?_
  rintro e w2 ⟨v2, A2, k2, d2, rfl, l2, h2, t2, wl2⟩
  have H := Lib.hid h2
  have T := Lib.hid (t1.trans t2)
  have L := Lib.hid (wl2.mono t1.size)
  clear h1 t1 o1 o2 h2 t2 wl2
  go_wp2_with fail
  go_ret
  exact ⟨v2, A2, k2, d2, rfl, by rw [E.out]; exact l2, by rw [E.out]; exact H.out, T.out, by rw [E.out]; exact L.out⟩
set_option maxRecDepth 100000 in
set_option maxHeartbeats 1000000 in
theorem impl_difference (B g n : Nat) (v : Value) (v1 : Rest) (z : List Int) (A : Option Addr) (c : Nat) (us : List Int) (A' : Option Addr) (c' : Nat) (ws : List Int) (w : World) (h : Cir B g w v v1 n z) (hB : B ≤ w.heap.size) (ho : Off g v w A us) (lu : us.length = 4) (hc : 4 ≤ c) (ho' : Off g v w A' ws) (lw : ws.length = 4) (hn : n ≤ 970000) :
    Calls Try.prog 99 #[.pointer (some ⟨g, 0, none⟩), .slice A 4 c, .slice A' 4 c'] w (PutL B g v1 (n + 4 + 1 + 5 * 3 + 1 + 1) (sumA (notsAt z ws 4).1 us (notsAt z ws 4).2 1 3).1 (sumA (notsAt z ws 4).1 us (notsAt z ws 4).2 1 3).2 v w) := by
  have c0 := impl_notEach B g n v v1 z A' 4 c' ws w h hB ho' lw (by omega) (by omega)
  have E := Lib.hid (sumA_add (notsAt z ws 4).1 us (notsAt z ws 4).2 1 3)
  have hN := notsAt_length z ws 4
  generalize notsAt z ws 4 = N at *
  have c1 := fun u W (H : Cir B g W u v1 (n + 4) N.1) HB => impl_constant B g (n + 4) u v1 N.1 1 W H HB (by omega)
  have c2 := fun X d u W (H : Cir B g W u v1 (n + 4 + 1) (putG N.1 2 1 0)) HB K K' hd => impl_addFrom B g (n + 4 + 1) u v1 (putG N.1 2 1 0) A 3 c us X d N.2 (nG N.1) W H HB K lu hc K' hN hd (by omega) (by omega)
  generalize nG N.1 = x at *
  go_enter Try.func99, Try.ntmps99
  go_wp2_with fail
  refine c0.mono ?_
  rintro e w1 ⟨u1, A1, k1, d1, rfl, l1, h1, t1, wl1⟩
  obtain rfl : k1 = 4 := by omega
  have B1 := Nat.le_trans hB t1.size
  have o1 := ho.turn t1
  have hd := wl1.cap
  have s1 := t1.size
  clear c0 h ho ho'
  go_wp2_with fail
  refine (c1 u1 w1 h1 B1).mono ?_
  rintro e w2 ⟨u2, rfl, h2, t2⟩
  have B2 := Nat.le_trans B1 t2.size
  have o2 := o1.turn t2
  have o3 := (wl1.turn t2).off
  have s2 := t2.size
  clear c1 h1 o1
  go_wp2_with fail
  refine (c2 A1 d1 u2 w2 h2 B2 o2 o3 hd).mono ?_
  rintro e w3 ⟨v3, A3, k3, d3, rfl, l3, h3, t3, wl3⟩
  have H := Lib.hid h3
  have T := Lib.hid ((t1.trans t2).trans t3)
  have L := Lib.hid (wl3.mono (Nat.le_trans s1 s2))
  clear h2 o2 o3 h3 t1 t2 t3 wl1 wl3 c2
  go_wp2_with fail
  go_ret
  exact ⟨v3, A3, k3, d3, rfl, by rw [E.out]; exact l3, by rw [E.out]; exact H.out, T.out, by rw [E.out]; exact L.out⟩
set_option maxRecDepth 100000 in
set_option maxHeartbeats 1000000 in
theorem impl_less (B g n : Nat) (v : Value) (v1 : Rest) (z : List Int) (A : Option Addr) (c : Nat) (us : List Int) (A' : Option Addr) (c' : Nat) (ws : List Int) (w : World) (h : Cir B g w v v1 n z) (hB : B ≤ w.heap.size) (ho : Off g v w A us) (lu : us.length = 4) (ho' : Off g v w A' ws) (lw : ws.length = 4) (hn : n ≤ 970000) :
    Calls Try.prog 118 #[.pointer (some ⟨g, 0, none⟩), .slice A 4 c, .slice A' 4 c'] w (PutW B g v1 (n + 4 + 1 + 5 * 4 + 1) (lessA z us ws).1 (lessA z us ws).2 v w) := by
  have c0 := impl_notEach B g n v v1 z A' 4 c' ws w h hB ho' lw (by omega) (by omega)
  have E := Lib.hid (show lessA z us ws = (putG (faAt (putG (notsAt z ws 4).1 2 1 0) us (notsAt z ws 4).2 (nG (notsAt z ws 4).1) 4).1 5 (faAt (putG (notsAt z ws 4).1 2 1 0) us (notsAt z ws 4).2 (nG (notsAt z ws 4).1) 4).2.2 0, nG (faAt (putG (notsAt z ws 4).1 2 1 0) us (notsAt z ws 4).2 (nG (notsAt z ws 4).1) 4).1) from by
    unfold lessA
    simp only [carryAt_fa])
  have hN := notsAt_length z ws 4
  generalize notsAt z ws 4 = N at *
  have c1 := fun u W (H : Cir B g W u v1 (n + 4) N.1) HB => impl_constant B g (n + 4) u v1 N.1 1 W H HB (by omega)
  have c2 := fun X d u W (H : Cir B g W u v1 (n + 4 + 1) (putG N.1 2 1 0)) HB K K' => impl_fullAdders B g (n + 4 + 1) u v1 (putG N.1 2 1 0) A 4 c us X 4 d N.2 (nG N.1) W H HB K lu K' hN (by omega) (by omega) (by omega)
  generalize nG N.1 = x at *
  generalize faAt (putG N.1 2 1 0) us N.2 x 4 = F at *
  have c3 := fun u W (H : Cir B g W u v1 (n + 4 + 1 + 5 * 4) F.1) HB => impl_not B g (n + 4 + 1 + 5 * 4) u v1 F.1 F.2.2 W H HB (by omega)
  generalize nG F.1 = y at *
  go_enter Try.func118, Try.ntmps118
  go_wp2_with fail
  refine c0.mono ?_
  rintro e w1 ⟨u1, A1, k1, d1, rfl, l1, h1, t1, wl1⟩
  obtain rfl : k1 = 4 := by omega
  have B1 := Nat.le_trans hB t1.size
  have o1 := ho.turn t1
  clear c0 h ho ho'
  go_wp2_with fail
  refine (c1 u1 w1 h1 B1).mono ?_
  rintro e w2 ⟨u2, rfl, h2, t2⟩
  have B2 := Nat.le_trans B1 t2.size
  have o2 := o1.turn t2
  have o3 := (wl1.turn t2).off
  clear c1 h1 o1
  go_wp2_with fail
  refine (c2 A1 d1 u2 w2 h2 B2 o2 o3).mono ?_
  rintro e w3 ⟨v3, A3, k3, d3, rfl, l3, h3, t3, wl3⟩
  have B3 := Nat.le_trans B2 t3.size
  have t4 := (t1.trans t2).trans t3
  clear h2 o2 o3 t1 t2 t3 wl1 wl3 c2
  go_wp2_with fail
  refine (c3 v3 w3 h3 B3).mono ?_
  rintro e w4 ⟨v4, rfl, h5, t5⟩
  have H := Lib.hid h5
  have T := Lib.hid (t4.trans t5)
  clear h3 h5 t5 t4 c3
  go_wp2_with fail
  go_ret
  exact ⟨v4, by rw [E.out]; rfl, by rw [E.out]; exact H.out, T.out⟩
end Go.Proofs.Ytbbdmgomcpmhpaa
