/- A circuit that is being built: its box, its gates, the lists of wires; appending a gate, the program's and the model's. No condition. -/
import Derived.Test.YtccaaklgmdafpaaProg
import Derived.Test.YtccaaklgmdafpaaCwM
import Derived.Test.YtccaaklgmdafpaaB1
import Derived.Test.YtccaaklgmdafpaaC1
import Derived.BigRegion
namespace Go.Proofs.Ytccaaklgmdafpaa
open Go Go.RowKit
/-- A circuit that is being built: its box, and its gates in a block of the call's own. -/
structure Cir (B g : Nat) (w : World) (v v1 : Value) (n : Nat) (z : List Int) : Prop where
  box : w.heap[g]? = some (.cells #[v, v1] 28 (0, 0))
  own : w.ownsRow B 64 3 v n (intVals z)
  ne : v.ownBlock ≠ some g
/-- What a builder turns: the box, the gates' block, and new memory. -/
structure Turn (g : Nat) (v : Value) (w : World) (v' : Value) (w' : World) : Prop where
  os : w'.os = w.os
  tape : w'.tape = w.tape
  output : w'.output = w.output
  size : w.heap.size ≤ w'.heap.size
  block : ∀ k, k < w.heap.size → k ≠ g → v.ownBlock ≠ some k → w'.heap[k]? = w.heap[k]?
  at_ : ∀ b, v'.ownBlock = some b → v.ownBlock = some b ∨ w.heap.size ≤ b
/-- Wires in memory that is no part of the circuit. -/
def Off (g : Nat) (v : Value) (w : World) (A : Option Addr) (us : List Int) : Prop :=
  0 < us.length → ∃ b o, A = some ⟨b, o, none⟩ ∧ (b < w.heap.size ∧ b ≠ g ∧ v.ownBlock ≠ some b) ∧ ∀ j, j < us.length → w.cell? ⟨b, o + j, none⟩ = some (.int .i64 (us.getD j 0))
/-- A list of wires that a builder makes. -/
structure Wl (g : Nat) (v : Value) (B : Nat) (w : World) (u : Value) (k : Nat) (us : List Int) : Prop where
  own : w.ownsRow B 3 1 u k (intVals us)
  ne : u.ownBlock ≠ some g
  ap : apart u v
section
variable {B B' g n k m c : Nat} {w w' w1 w2 : World} {v v' v'' v1 u u' : Value} {z z' us ws : List Int} {A : Option Addr}
theorem Cir.len (h : Cir B g w v v1 n z) : z.length = n * 3 := by have := h.own.1; rwa [intVals_length] at this
theorem Cir.lt (h : Cir B g w v v1 n z) : g < w.heap.size := heap_lt h.box
theorem Cir.below (h : Cir B g w v v1 n z) (hb : Below w.heap.size w w1) : Cir B g w1 v v1 n z := ⟨heap_below h.box hb, own_below h.own hb, h.ne⟩
theorem Cir.alloc (h : Cir B g w v v1 n z) (o : Obj) : Cir B g (w.alloc o) v v1 n z := h.below (below_alloc w o)
theorem Cir.drew (h : Cir B g w v v1 n z) : Cir B g w.drew v v1 n z := ⟨h.box, h.own, h.ne⟩
theorem Cir.drewN (h : Cir B g w v v1 n z) (i : Nat) : Cir B g (w.drewN i) v v1 n z := ⟨h.box, h.own, h.ne⟩
theorem Cir.mono (h : Cir B g w v v1 n z) (e : B' ≤ B) : Cir B' g w v v1 n z := ⟨h.box, own_mono h.own e, h.ne⟩
/-- Another list turns. -/
theorem Cir.grown (h : Cir B g w v v1 n z) (hg : w.grownBy w1 u.ownBlock) (hu : u.ownBlock ≠ some g) (ha : apart u v) : Cir B g w1 v v1 n z :=
  ⟨heap_grown h.box hg hu, h.own.kept hg (by
    rcases hv : v.ownBlock with _ | b
    · exact .inl rfl
    · exact .inr (fun e => ha b e.symm hv)), h.ne⟩
theorem Turn.refl (g : Nat) (v : Value) (w : World) : Turn g v w v w := ⟨rfl, rfl, rfl, Nat.le_refl _, fun _ _ _ _ => rfl, fun _ e => .inl e⟩
theorem Turn.trans (h : Turn g v w v' w1) (k : Turn g v' w1 v'' w2) : Turn g v w v'' w2 :=
  ⟨k.os.trans h.os, k.tape.trans h.tape, k.output.trans h.output, Nat.le_trans h.size k.size, fun i hi h1 h2 => (k.block i (Nat.lt_of_lt_of_le hi h.size) h1 (fun e => by
    rcases h.at_ i e with e1 | e1
    · exact h2 e1
    · omega)).trans (h.block i hi h1 h2), fun b e => by
    rcases k.at_ b e with e1 | e1
    · exact h.at_ b e1
    · exact .inr (Nat.le_trans h.size e1)⟩
theorem Turn.below (h : Turn g v w v' w1) (hb : Below w1.heap.size w1 w2) : Turn g v w v' w2 :=
  ⟨hb.os.trans h.os, hb.tape.trans h.tape, hb.output.trans h.output, Nat.le_trans h.size hb.size, fun i hi h1 h2 => (hb.block i (Nat.lt_of_lt_of_le hi h.size)).trans (h.block i hi h1 h2), h.at_⟩
theorem Turn.alloc (h : Turn g v w v' w1) (o : Obj) : Turn g v w v' (w1.alloc o) := h.below (below_alloc w1 o)
theorem Turn.drew (h : Turn g v w v' w1) : Turn g v w v' w1.drew := ⟨h.os, h.tape, h.output, h.size, h.block, h.at_⟩
theorem Turn.drewN (h : Turn g v w v' w1) (i : Nat) : Turn g v w v' (w1.drewN i) := ⟨h.os, h.tape, h.output, h.size, h.block, h.at_⟩
/-- The same from a world that drew. -/
theorem Turn.ofDrew (h : Turn g v w.drew v' w1) : Turn g v w v' w1 := ⟨h.os, h.tape, h.output, h.size, h.block, h.at_⟩
/-- A list of the builder's own turns. -/
theorem Turn.grown (h : Turn g v w v' w1) (hg : w1.grownBy w2 u.ownBlock) (hu : ∀ k, u.ownBlock = some k → w.heap.size ≤ k) : Turn g v w v' w2 :=
  ⟨hg.os.trans h.os, hg.tape.trans h.tape, hg.output.trans h.output, Nat.le_trans h.size hg.size, fun i hi h1 h2 => (hg.block i (Nat.lt_of_lt_of_le hi h.size) (fun e => by have := hu i e.symm; omega)).trans (h.block i hi h1 h2), h.at_⟩
theorem Turn.low (h : Turn g v w v' w1) (hg : B ≤ g) (hv : ∀ b, v.ownBlock = some b → B ≤ b) (hB : B ≤ w.heap.size) : Below B w w1 :=
  ⟨h.os, h.tape, h.output, h.size, fun k hk => h.block k (by omega) (by omega) (fun e => by have := hv k e; omega)⟩
theorem Off.nil (g : Nat) (v : Value) (w : World) (A : Option Addr) : Off g v w A [] := fun h => absurd h (by simp)
theorem Off.turn (h : Off g v w A us) (t : Turn g v w v' w1) : Off g v' w1 A us := fun h0 => by
  obtain ⟨b, o, e, ⟨h1, h2, h3⟩, hc⟩ := h h0
  refine ⟨b, o, e, ⟨Nat.lt_of_lt_of_le h1 t.size, h2, fun e => ?_⟩, fun j hj => (World.cell?_of_block (t.block b h1 h2 h3)).trans (hc j hj)⟩
  rcases t.at_ b e with e1 | e1
  · exact h3 e1
  · omega
theorem Off.below (h : Off g v w A us) (hb : Below w.heap.size w w1) : Off g v w1 A us := h.turn ((Turn.refl g v w).below hb)
theorem Off.alloc (h : Off g v w A us) (o : Obj) : Off g v (w.alloc o) A us := h.below (below_alloc w o)
theorem Off.drew (h : Off g v w A us) : Off g v w.drew A us := h
theorem Off.drewN (h : Off g v w A us) (i : Nat) : Off g v (w.drewN i) A us := h
theorem Off.at_ {j : Nat} (h : Off g v w A us) (hj : j < us.length) : ∃ b o, A = some ⟨b, o, none⟩ ∧ w.cell? ⟨b, o + j, none⟩ = some (.int .i64 (us.getD j 0)) := by
  obtain ⟨b, o, e, _, hc⟩ := h (by omega)
  exact ⟨b, o, e, hc j hj⟩
theorem Off.ints (h : Off g v w A us) : Ints w A us := fun h0 => by
  obtain ⟨b, o, e, ⟨h1, _⟩, hc⟩ := h h0
  exact ⟨b, o, e, h1, hc⟩
/-- What lay below the circuit's memory is no part of it. -/
theorem Off.of_bound (h : IntsB B w A us) (hg : B ≤ g) (hv : ∀ b, v.ownBlock = some b → B ≤ b) (hB : B ≤ w.heap.size) : Off g v w A us := fun h0 => by
  obtain ⟨b, o, e, h1, hc⟩ := h h0
  exact ⟨b, o, e, ⟨by omega, by omega, fun e => by have := hv b e; omega⟩, hc⟩
theorem Off.cut (h : Off g v w A us) (m : Nat) : Off g v w A (us.take m) := fun h0 => by
  rw [List.length_take] at h0
  obtain ⟨b, o, e, hl, hc⟩ := h (by omega)
  refine ⟨b, o, e, hl, fun j hj => ?_⟩
  rw [List.length_take] at hj
  rw [List.getD_eq_getElem?_getD, List.getElem?_take_of_lt (by omega), ← List.getD_eq_getElem?_getD]
  exact hc j (by omega)
theorem Off.skip {b o : Nat} (h : Off g v w (some ⟨b, o, none⟩) us) (f : Nat) : Off g v w (some ⟨b, o + f, none⟩) (us.drop f) := fun h0 => by
  rw [List.length_drop] at h0
  obtain ⟨b', o', e, hl, hc⟩ := h (by omega)
  injection e with e
  injection e with e1 e2
  subst e1 e2
  refine ⟨b, o + f, rfl, hl, fun j hj => ?_⟩
  rw [List.length_drop] at hj
  have := hc (f + j) (by omega)
  rw [Nat.add_assoc, this]
  simp [List.getD_eq_getElem?_getD]
theorem Wl.len (h : Wl g v B w u k us) : us.length = k := by have := h.own.1; rw [intVals_length] at this; omega
theorem Wl.form (h : Wl g v B w u k us) : ∃ (A : Option Addr) (c : Nat), u = .slice A k c := by
  obtain ⟨A, m, c, e, rfl⟩ := ownsRow_slice h.own
  exact ⟨A, c, e⟩
theorem Wl.nil (g : Nat) (v : Value) (B : Nat) (w : World) : Wl g v B w (.slice none 0 0) 0 [] := ⟨World.ownsRow_nil w B _ 1, by simp [Value.ownBlock], apart.nil _ _ _⟩
theorem Wl.turn (h : Wl g v B w u k us) (t : Turn g v w v' w1) : Wl g v' B w1 u k us := by
  refine ⟨⟨h.own.1, ?_⟩, h.ne, fun b e e' => ?_⟩
  · rcases h.own.2 with e | ⟨b, cap, cur, e, hb, hh, r⟩
    · exact .inl e
    · refine .inr ⟨b, cap, cur, e, hb, (t.block b (heap_lt hh) (fun e1 => h.ne (by rw [e, ← e1]; rfl)) (fun e1 => h.ap b (by rw [e]; rfl) e1)).trans hh, r⟩
  · rcases t.at_ b e' with e1 | e1
    · exact h.ap b e e1
    · have := (h.own.lt b e).2; omega
theorem Wl.below (h : Wl g v B w u k us) (hb : Below w.heap.size w w1) : Wl g v B w1 u k us := h.turn ((Turn.refl g v w).below hb)
theorem Wl.alloc (h : Wl g v B w u k us) (o : Obj) : Wl g v B (w.alloc o) u k us := h.below (below_alloc w o)
theorem Wl.drew (h : Wl g v B w u k us) : Wl g v B w.drew u k us := ⟨h.own, h.ne, h.ap⟩
theorem Wl.drewN (h : Wl g v B w u k us) (i : Nat) : Wl g v B (w.drewN i) u k us := ⟨h.own, h.ne, h.ap⟩
theorem Wl.mono (h : Wl g v B w u k us) (e : B' ≤ B) : Wl g v B' w u k us := ⟨own_mono h.own e, h.ne, h.ap⟩
theorem Wl.off (h : Wl g v B w (.slice A k c) k us) : Off g v w A us := fun h0 => by
  obtain ⟨b, o, e, hl, hc⟩ := Ints.of_own h.own h0
  subst e
  exact ⟨b, o, rfl, ⟨hl, fun e => h.ne (by rw [← e]; rfl), fun e => h.ap b rfl e⟩, hc⟩
theorem Wl.at_ {b j : Nat} (h : Wl g v B w (.slice (some ⟨b, 0, none⟩) k c) k us) (hj : j < k) : w.cell? ⟨b, j, none⟩ = some (.int .i64 (us.getD j 0)) ∧ w.frozen? ⟨b, j, none⟩ = false := by
  refine ⟨?_, h.own.frozenAt j⟩
  have hl := h.len
  rw [h.own.cellAt j (by omega)]
  simp [intVals, List.getElem?_map, List.getD_eq_getElem?_getD, List.getElem?_eq_getElem (show j < us.length by omega)]
/-- What append made of it. -/
theorem Wl.app (h : Wl g v B w u k us) {H b c' : Nat} {xs : List Value} {ys : List Int} (ho : w2.ownsRow B 3 1 (.slice (some ⟨b, 0, none⟩) m c') m xs) (he : xs = intVals ys) (hat : u.ownBlock = some b ∨ b = H)
    (hc : Cir B' g w v v1 n z) (hH : w.heap.size ≤ H) : Wl g v B w2 (.slice (some ⟨b, 0, none⟩) m c') m ys := by
  subst he
  have hgl := hc.lt
  have e0 : (Value.slice (some ⟨b, 0, none⟩) m c').ownBlock = some b := rfl
  refine ⟨ho, fun e => ?_, fun q e e' => ?_⟩
  · rw [e0] at e
    injection e with e
    subst e
    rcases hat with h1 | h1
    · exact h.ne h1
    · omega
  · rw [e0] at e
    injection e with e
    subst e
    rcases hat with h1 | h1
    · exact h.ap b h1 e'
    · have := (hc.own.lt b e').2; omega
theorem Wl.cap (h : Wl g v B w (.slice A k c) k us) : k ≤ c := by
  rcases h.own.2 with ⟨_, h1⟩ | ⟨g, cap, cur, e, _, _, h2, _⟩
  · omega
  · injection e with _ _ e3
    omega
/-- A list in memory that was not there when the circuit was. -/
theorem Wl.fresh (h : Cir B' g w v v1 n z) (ho : w1.ownsRow B 3 1 u k (intVals us)) (hb : w.heap.size ≤ B) : Wl g v B w1 u k us :=
  ⟨ho, fun e => by have := (ho.lt g e).1; have := h.lt; omega, fun q e e' => by have := (ho.lt q e).1; have := (h.own.lt q e').2; omega⟩
theorem Wl.from_ (h : Wl g v B w u k us) (e : B' ≤ B) : ∀ q, u.ownBlock = some q → B' ≤ q := fun q e' => Nat.le_trans e (h.own.lt q e').1
end
/-- A builder on its way: the circuit, what turned since it began, its list of wires. -/
structure Bl (B g : Nat) (v : Value) (w wr : World) (v' v1 : Value) (n : Nat) (z : List Int) (u : Value) (k : Nat) (us : List Int) : Prop where
  cir : Cir B g wr v' v1 n z
  turn : Turn g v w v' wr
  wl : Wl g v' w.heap.size wr u k us
section
variable {B g n n' k b c : Nat} {w wr w1 w2 : World} {v v' v'' v1 u : Value} {z z' us : List Int} {x : Int}
theorem Bl.next (h : Bl B g v w wr v' v1 n z u k us) (hc : Cir B g w1 v'' v1 n' z') (t : Turn g v' wr v'' w1) : Bl B g v w w1 v'' v1 n' z' u k us := ⟨hc, h.turn.trans t, h.wl.turn t⟩
theorem Bl.below (h : Bl B g v w wr v' v1 n z u k us) (hb : Below wr.heap.size wr w1) : Bl B g v w w1 v' v1 n z u k us := h.next (h.cir.below hb) ((Turn.refl _ _ _).below hb)
theorem Bl.alloc (h : Bl B g v w wr v' v1 n z u k us) (o : Obj) : Bl B g v w (wr.alloc o) v' v1 n z u k us := h.below (below_alloc _ _)
theorem Bl.drew (h : Bl B g v w wr v' v1 n z u k us) : Bl B g v w wr.drew v' v1 n z u k us := ⟨h.cir.drew, h.turn.drew, h.wl.drew⟩
theorem Bl.drewN (h : Bl B g v w wr v' v1 n z u k us) (i : Nat) : Bl B g v w (wr.drewN i) v' v1 n z u k us := ⟨h.cir.drewN i, h.turn.drewN i, h.wl.drewN i⟩
theorem Bl.size (h : Bl B g v w wr v' v1 n z u k us) : w.heap.size ≤ wr.heap.size := h.turn.size
/-- A place of the list is set. -/
theorem Bl.set (h : Bl B g v w wr v' v1 n z (.slice (some ⟨b, 0, none⟩) k c) k us) (j : Nat) (x : Int) : Bl B g v w (wr.setCell ⟨b, j, none⟩ (.int .i64 x)) v' v1 n z (.slice (some ⟨b, 0, none⟩) k c) k (us.set j x) := by
  have hs := h.wl.own.stored j (.int .i64 x)
  refine ⟨h.cir.grown (u := .slice (some ⟨b, 0, none⟩) k c) hs.2 h.wl.ne h.wl.ap, h.turn.grown (u := .slice (some ⟨b, 0, none⟩) k c) hs.2 (h.wl.from_ (Nat.le_refl _)), ?_, h.wl.ne, h.wl.ap⟩
  rw [show intVals (us.set j x) = (intVals us).set j (.int .i64 x) by simp [intVals, List.map_set]]
  exact hs.1
/-- A wire is appended to the list. -/
theorem Bl.app {o : Obj} (h : Bl B g v w wr v' v1 n z u k us) (ho : w2.ownsRow w.heap.size 3 1 (.slice (some ⟨b, 0, none⟩) (k + 1) c) (k + 1) (intVals us ++ (#[Value.int .i64 x] : Array Value).toList)) (hg : (wr.alloc o).grownBy w2 u.ownBlock) (hat : u.ownBlock = some b ∨ b = wr.heap.size + 1) :
    Bl B g v w w2 v' v1 n z (.slice (some ⟨b, 0, none⟩) (k + 1) c) (k + 1) (us ++ [x]) := by
  have h1 := h.alloc o
  refine ⟨h1.cir.grown hg h1.wl.ne h1.wl.ap, h1.turn.grown hg (h1.wl.from_ (Nat.le_refl _)), ?_⟩
  have h2 := h1.wl.app (H := wr.heap.size + 1) ho (ys := us ++ [x]) (by simp [intVals]) hat h1.cir (by simp)
  have hne := h2.ne
  exact ⟨h2.own, h2.ne, h2.ap⟩
end
/-- A gate was appended: its wire, and the circuit. -/
def PutW (B g : Nat) (v1 : Value) (n' : Nat) (z' : List Int) (x : Int) (v : Value) (w : World) (e : Ending) (w' : World) : Prop :=
  ∃ v', e = .returned (.int .i64 x) ∧ Cir B g w' v' v1 n' z' ∧ Turn g v w v' w'
/-- Gates were appended: a list of wires in new memory, and the circuit. -/
def PutL (B g : Nat) (v1 : Value) (n' : Nat) (z' us : List Int) (v : Value) (w : World) (e : Ending) (w' : World) : Prop :=
  ∃ (v' : Value) (A : Option Addr) (k c : Nat), e = .returned (.slice A k c) ∧ us.length = k ∧ Cir B g w' v' v1 n' z' ∧ Turn g v w v' w' ∧ Wl g v' w.heap.size w' (.slice A k c) k us
/-- A list of wires in new memory, and a wire. -/
def PutLP (B g : Nat) (v1 : Value) (n' : Nat) (z' us : List Int) (x : Int) (v : Value) (w : World) (e : Ending) (w' : World) : Prop :=
  ∃ (v' : Value) (A : Option Addr) (k c : Nat), e = .returned (.tuple #[.slice A k c, .int .i64 x]) ∧ us.length = k ∧ Cir B g w' v' v1 n' z' ∧ Turn g v w v' w' ∧ Wl g v' w.heap.size w' (.slice A k c) k us
/-- Two wires. -/
def PutP (B g : Nat) (v1 : Value) (n' : Nat) (z' : List Int) (x y : Int) (v : Value) (w : World) (e : Ending) (w' : World) : Prop :=
  ∃ v', e = .returned (.tuple #[.int .i64 x, .int .i64 y]) ∧ Cir B g w' v' v1 n' z' ∧ Turn g v w v' w'
/-- The gates' row behind an append, the box behind the store. -/
theorem Cir.put {B g n b c : Nat} {w w2 : World} {v v1 : Value} {z : List Int} {k x y : Int} {H : Nat} (h : Cir B g w v v1 n z)
    (ho : w2.ownsRow B 64 3 (.slice (some ⟨b, 0, none⟩) (n + 1) c) (n + 1) (intVals z ++ [.int .i64 k, .int .i64 x, .int .i64 y])) (hg : w.grownBy w2 v.ownBlock) (hat : v.ownBlock = some b ∨ b = H) (hH : w.heap.size ≤ H) :
    Cir B g (w2.setCell ⟨g, 0, none⟩ (.slice (some ⟨b, 0, none⟩) (n + 1) c)) (.slice (some ⟨b, 0, none⟩) (n + 1) c) v1 (n + 1) (putG z k x y) ∧ Turn g v w (.slice (some ⟨b, 0, none⟩) (n + 1) c) (w2.setCell ⟨g, 0, none⟩ (.slice (some ⟨b, 0, none⟩) (n + 1) c)) := by
  have hgl := h.lt
  have hbg : b ≠ g := by
    rcases hat with e | e
    · intro e1; subst e1; exact h.ne e
    · omega
  have eo : (Value.slice (some ⟨b, 0, none⟩) (n + 1) c).ownBlock = some b := rfl
  refine ⟨⟨heap_set (heap_grown h.box hg h.ne) _, ?_, fun e => ?_⟩, ⟨hg.os, hg.tape, hg.output, by simpa using hg.size, fun q hq h1 h2 => ?_, fun q e => ?_⟩⟩
  · rw [show intVals (putG z k x y) = intVals z ++ [.int .i64 k, .int .i64 x, .int .i64 y] by simp [intVals, putG]]
    refine ⟨ho.1, ?_⟩
    rcases ho.2 with e | ⟨b', cap, cur, e, hb', hh, r⟩
    · exact .inl e
    · have e2 : b = b' := by injection e with e; injection e with e; injection e
      subst e2
      exact .inr ⟨b, cap, cur, e, hb', by rw [Below.heap_setCell _ _ _ _ (by simpa using hbg)]; exact hh, r⟩
  · rw [eo] at e
    injection e with e
    exact hbg e
  · rw [Below.heap_setCell _ _ _ _ (by simpa using h1)]
    exact hg.block q hq (fun e => h2 e.symm)
  · rw [eo] at e
    injection e with e
    subst e
    rcases hat with e | e
    · exact .inl e
    · exact .inr (by omega)
set_option maxRecDepth 100000 in
theorem impl_appendGate (B g n : Nat) (v v1 : Value) (z : List Int) (k a b : Int) (w : World) (h : Cir B g w v v1 n z) (hB : B ≤ w.heap.size) (hn : n ≤ 1000000) :
    Calls Try.prog 106 #[.pointer (some ⟨g, 0, none⟩), .agg #[.int .i64 k, .int .i64 a, .int .i64 b]] w (PutW B g v1 (n + 1) (putG z k a b) (nG z) v w) := by
  have hl := h.len
  rw [nG_is hl]
  have t0 := (Turn.refl g v w).alloc (.cells #[.int .i64 k, .int .i64 a, .int .i64 b] 64)
  have b0 := heap_alloc_new w (.cells #[.int .i64 k, .int .i64 a, .int .i64 b] 64)
  have h0 := h.alloc (.cells #[.int .i64 k, .int .i64 a, .int .i64 b] 64)
  have hB0 : B ≤ (w.alloc (.cells #[.int .i64 k, .int .i64 a, .int .i64 b] 64)).heap.size := by simp; omega
  have hgl := h.lt
  clear h hl
  go_enter Try.func106, Try.ntmps106
  go_upto_region 1 with (fail)
  generalize hw0 : w.alloc (.cells #[.int .i64 k, .int .i64 a, .int .i64 b] 64) = w0 at *
  have hs : w.heap.size < w0.heap.size := by rw [← hw0]; simp
  clear hw0
  have hd := h0.drew
  have c0 := (blk (i := 0) h0.box rfl).1
  have c1 := (blk (i := 0) (h0.alloc (.cells #[.int .i64 k, .int .i64 a, .int .i64 b] 64)).box rfl).1
  obtain ⟨d0, _⟩ := blk (i := 0) b0 rfl
  obtain ⟨d1, _⟩ := blk (i := 1) b0 rfl
  obtain ⟨d2, _⟩ := blk (i := 2) b0 rfl
  go_region_law (first
    | (refine app_step (e' := 64) elemGate (by rfl) _ _ (by rfl) B v n (intVals z) (by rfl) (hd.alloc (.cells #[.int .i64 k, .int .i64 a, .int .i64 b] 64)).own w0.heap.size 1 1 _ (0, 0) (by rfl) (heap_alloc_new w0.drew _) (by rfl) (oneCell_i64 [_, _, _]) (by omega) (by unfold maxLen; omega) (by omega) (by simp; omega) (w0.heap.size + 1) (by simp) ?_; intro g5 e5 w5 ho5 hg5 hat5 hl5; (have bx5 := heap_grown (hd.alloc (.cells #[.int .i64 k, .int .i64 a, .int .i64 b] 64)).box hg5 h0.ne); (obtain ⟨a5, f5⟩ := blk (i := 0) bx5 rfl)))
  all_goals
    obtain ⟨p1, p2⟩ := (hd.alloc (.cells #[.int .i64 k, .int .i64 a, .int .i64 b] 64)).put ho5 hg5 hat5 (by simp)
    have q1 := Lib.hid p1
    have q2 := Lib.hid ((t0.drew.alloc (.cells #[.int .i64 k, .int .i64 a, .int .i64 b] 64)).trans p2)
    have e1 := (blk (i := 0) p1.box rfl).1
    clear p1 p2 ho5 hg5 hat5 hl5 bx5 a5 f5 hd c0 c1 d0 d1 d2 b0 h0 t0
    go_wp2_with fail
    go_ret
    exact ⟨_, ret_int (by omega), q1.out, q2.out⟩
set_option maxRecDepth 100000 in
theorem spec_l14Put (B g n : Nat) (v v1 : Value) (z : List Int) (k a b : Int) (w : World) (h : Cir B g w v v1 n z) (hB : B ≤ w.heap.size) (hn : n ≤ 1000000) :
    Calls Try.prog 98 #[.pointer (some ⟨g, 0, none⟩), .int .i64 k, .int .i64 a, .int .i64 b] w (PutW B g v1 (n + 1) (putG z k a b) (nG z) v w) := by
  have hl := h.len
  rw [nG_is hl]
  have t0 := (Turn.refl g v w).alloc (.cells #[.int .i64 k, .int .i64 a, .int .i64 b] 64)
  have h0 := h.alloc (.cells #[.int .i64 k, .int .i64 a, .int .i64 b] 64)
  have hgl := h.lt
  have c0 := (blk (i := 0) h.box rfl).1
  have hne := h.ne
  clear hl
  go_enter Try.func98, Try.ntmps98
  go_wp2_with (first | (at_builtin; refine app_list (e' := 64) elemGate rfl _ _ rfl B v n (intVals z) rfl h0.own w.heap.size 1 1 _ (0, 0) rfl (heap_alloc_new w _) rfl (oneCell_i64 [_, _, _]) (by omega) (by unfold maxLen; omega) (by omega) (by simp; omega) (w.heap.size + 1) (by simp) ?_))
  intro g5 e5 w5 ho5 hg5 hat5 hl5
  obtain ⟨a5, f5⟩ := blk (i := 0) (heap_grown h0.box hg5 hne) rfl
  obtain ⟨p1, p2⟩ := h0.put ho5 hg5 hat5 (by simp)
  have q1 := Lib.hid p1
  have q2 := Lib.hid (t0.trans p2)
  have e1 := (blk (i := 0) p1.box rfl).1
  clear p1 p2 ho5 hg5 hat5 hl5 c0 h0 t0
  go_wp2_with fail
  go_ret
  exact ⟨_, ret_int (by omega), q1.out, q2.out⟩
end Go.Proofs.Ytccaaklgmdafpaa
