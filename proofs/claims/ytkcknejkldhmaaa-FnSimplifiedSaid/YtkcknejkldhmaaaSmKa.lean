/- Simplification, the program's: the map that has the wire of each gate. No condition. -/
import Derived.Test.YtkcknejkldhmaaaProg
import Derived.Test.YtkcknejkldhmaaaSmM
import Derived.Test.YtkcknejkldhmaaaW2
import Derived.Maps.OwnSet
import Derived.DeepKeys4
namespace Go.Proofs.Ytkcknejkldhmaaa
open Go Go.RowKit Go.Maps
/-- A gate as a key reads. -/
def kg (k a b : Int) : Lit := .string (keyBytes [.int .i64 k, .int .i64 a, .int .i64 b])
/-- The numbers of a gate that may be a key. -/
def smallG (k a b : Int) : Prop := (0 ≤ k ∧ k ≤ 1000000) ∧ (0 ≤ a ∧ a ≤ 1000000) ∧ 0 ≤ b ∧ b ≤ 1000000
theorem small_gate {k a b : Int} {n : Nat} (h : gateOk k a b n) (hn : n ≤ 1000000) : smallG k a b := by
  unfold gateOk at h
  unfold smallG
  omega
theorem lawG : WideMaps.KeyLaw Try.prog 40 := deep_law (m := 2) (by omega) (by kernel_rfl) (by kernel_rfl) (by kernel_rfl)
theorem keyG : Keyed Try.prog 40 := Keyed.of_law lawG
theorem size_types : ∃ d, Try.prog.types.size = d + 1 := ⟨Try.prog.types.size - 1, by
  have : 0 < Try.prog.types.size := of_decide_eq_true (by kernel_rfl)
  omega⟩
theorem key_gate {k a b : Int} (h : smallG k a b) : keyOf Try.prog 40 (.agg #[.int .i64 k, .int .i64 a, .int .i64 b]) = some (kg k a b) := by
  obtain ⟨h1, h2, h3⟩ := h
  have w1 : (Lit.int .i64 k).wf = true := WalkArith.wf_i64 (by omega)
  have w2 : (Lit.int .i64 a).wf = true := WalkArith.wf_i64 (by omega)
  have w3 : (Lit.int .i64 b).wf = true := WalkArith.wf_i64 (by omega)
  have e1 : Try.prog.keyType 40 = true := by kernel_rfl
  have e2 : Try.prog.cellsOf 40 = 3 := by kernel_rfl
  have e3 : Try.prog.cellsOf 3 = 1 := by kernel_rfl
  obtain ⟨d, hd⟩ := size_types
  have e4 : (Value.agg #[.int .i64 k, .int .i64 a, .int .i64 b]).formed Try.prog 40 = true := by simp [Value.formed, Try.underlying40, e2]
  unfold keyOf
  simp only [Try.underlying40, e1, e4, Bool.and_self, if_true, hd]
  simp [Program.keyLits, Try.underlying40, Try.underlying3, e2, e3, w1, w2, w3, Value.cells, kg]
theorem kg_ne {k a b k' a' b' : Int} (h : smallG k a b) (h' : smallG k' a' b') (hne : ¬ (k' = k ∧ a' = a ∧ b' = b)) : kg k a b ≠ kg k' a' b' := fun e => by
  have h1 := key_gate h
  have h2 := key_gate h'
  rw [← e] at h2
  have h3 := lawG.inj h1 h2
  injection h3 with h3
  have h4 := congrArg (fun x : Array Value => (x[0]?, x[1]?, x[2]?)) h3
  simp at h4
  exact hne ⟨h4.1.symm, h4.2.1.symm, h4.2.2.symm⟩
theorem kg_key (k a b : Int) : WideAt.IsKeyLit (kg k a b) := trivial
/-- The map as it reads: the first n gates, each at its wire. -/
def knD (z : List Int) : Nat → DataW Unit
  | 0 => .map []
  | i + 1 => (knD z i).put (kg (gk z i) (ga z i) (gb z i)) (.lit (.int .i64 (i : Int)))
theorem knD_map (z : List Int) (n : Nat) : IsMap (knD z n) := by
  induction n with
  | zero => exact isMap_empty
  | succ n ih => exact ih.put _ _
section
variable {z : List Int} {n : Nat} {k a b : Int}
theorem smalls (hg : gatesOk z n) (hn : n ≤ 1000000) {i : Nat} (hi : i < n) : smallG (gk z i) (ga z i) (gb z i) := small_gate (hg i hi) (by omega)
theorem knD_find (hz : ∀ i, i < n → smallG (gk z i) (ga z i) (gb z i)) (ho : once z n) (h : smallG k a b) :
    Maps.has (knD z n) (kg k a b) = decide (findG z k a b n < n) ∧ (findG z k a b n < n → ∀ zd, (knD z n).atKey (kg k a b) zd = .lit (.int .i64 ((findG z k a b n : Nat) : Int))) ∧ (¬ findG z k a b n < n → ∀ zd, (knD z n).atKey (kg k a b) zd = zd) := by
  induction n with
  | zero => exact ⟨rfl, fun h => by omega, fun _ _ => rfl⟩
  | succ n ih =>
    obtain ⟨i1, i2, i3⟩ := ih (fun i hi => hz i (by omega)) (fun i j h1 h2 => ho i j h1 (by omega))
    have hle := findG_le z k a b n
    by_cases hG : isG z k a b n
    · have hno : ¬ findG z k a b n < n := fun hlt => by
        have hy := findG_yes hlt
        have h1 := ho (findG z k a b n) n hlt (by omega)
        unfold isG at hG hy h1
        rw [hG.1, hG.2.1, hG.2.2] at h1
        exact h1 hy
      have e : findG z k a b (n + 1) = n := by simp only [findG]; rw [if_neg hno, if_pos hG]
      have ek : kg (gk z n) (ga z n) (gb z n) = kg k a b := by unfold isG at hG; rw [hG.1, hG.2.1, hG.2.2]
      rw [e]
      refine ⟨?_, fun _ zd => ?_, fun h2 => by omega⟩
      · rw [decide_eq_true (by omega)]
        simp only [knD, ek]
        exact has_put_same (knD_map z n) (kg_key k a b) _
      · simp only [knD, ek]
        exact atKey_put_same (knD_map z n) (kg_key k a b) _ zd
    · have hne : kg k a b ≠ kg (gk z n) (ga z n) (gb z n) := kg_ne h (hz n (by omega)) hG
      simp only [knD, has_put_other hne, atKey_put_other hne]
      by_cases hf : findG z k a b n < n
      · have e : findG z k a b (n + 1) = findG z k a b n := by simp only [findG]; rw [if_pos hf]
        rw [e, i1, decide_eq_true hf, decide_eq_true (by omega)]
        exact ⟨rfl, fun _ => i2 hf, fun h2 => by omega⟩
      · have e : findG z k a b (n + 1) = n + 1 := by simp only [findG]; rw [if_neg hf, if_neg hG]
        rw [e, i1, decide_eq_false hf, decide_eq_false (by omega)]
        exact ⟨rfl, fun h2 => by omega, fun _ => i3 hf⟩
theorem knD_pre {y : List Int} : ∀ {n : Nat}, (∀ i, i < n → gk y i = gk z i ∧ ga y i = ga z i ∧ gb y i = gb z i) → knD y n = knD z n
  | 0, _ => rfl
  | n + 1, h => by
    obtain ⟨h1, h2, h3⟩ := h n (by omega)
    simp only [knD]
    rw [knD_pre (fun i hi => h i (by omega)), h1, h2, h3]
/-- A gate is appended: it is the map's next. -/
theorem knD_put (hz : z.length = n * 3) : knD (putG z k a b) (n + 1) = (knD z n).put (kg k a b) (.lit (.int .i64 (n : Int))) := by
  obtain ⟨e1, e2, e3⟩ := gate_last k a b hz
  simp only [knD]
  rw [show gk (putG z k a b) n = k from e1, show ga (putG z k a b) n = a from e2, show gb (putG z k a b) n = b from e3]
  rw [knD_pre (z := z) (y := putG z k a b) fun i hi => ⟨gk_left hz hi, ga_left hz hi, gb_left hz hi⟩]
end
/-- What a simplification turns: its box, its map, the block of its gates, and new memory. -/
structure Tm (g mb : Nat) (v : Value) (w : World) (v' : Value) (w' : World) : Prop where
  os : w'.os = w.os
  tape : w'.tape = w.tape
  output : w'.output = w.output
  size : w.heap.size ≤ w'.heap.size
  block : ∀ k, k < w.heap.size → k ≠ g → k ≠ mb → v.ownBlock ≠ some k → w'.heap[k]? = w.heap[k]?
  at_ : ∀ b, v'.ownBlock = some b → v.ownBlock = some b ∨ w.heap.size ≤ b
/-- A simplification: the circuit that is made, without outputs, and the wire of each of its gates. -/
structure Sp (B g mb n : Nat) (w : World) (v : Value) (z : List Int) : Prop where
  cir : Cir B g w v ⟨[.slice none 0 0, .map (some mb)], 76⟩ n z
  map : w.ownsMap Try.prog 40 (plainElem Try.prog 3) mb n (knD z n)
  ge : B ≤ g
  mge : B ≤ mb
  ok : gatesOk z n
  one : once z n
section
variable {B g mb n i j b : Nat} {w w1 w2 : World} {v v' v'' : Value} {z us : List Int} {A : Option Addr}
theorem Tm.refl (g mb : Nat) (v : Value) (w : World) : Tm g mb v w v w := ⟨rfl, rfl, rfl, Nat.le_refl _, fun _ _ _ _ _ => rfl, fun _ e => .inl e⟩
theorem Tm.of_turn (t : Turn g v w v' w1) (mb : Nat) : Tm g mb v w v' w1 := ⟨t.os, t.tape, t.output, t.size, fun k hk h1 _ h3 => t.block k hk h1 h3, t.at_⟩
theorem Tm.trans (h : Tm g mb v w v' w1) (k : Tm g mb v' w1 v'' w2) : Tm g mb v w v'' w2 :=
  ⟨k.os.trans h.os, k.tape.trans h.tape, k.output.trans h.output, Nat.le_trans h.size k.size, fun i hi h1 h2 h3 => (k.block i (Nat.lt_of_lt_of_le hi h.size) h1 h2 (fun e => by
    rcases h.at_ i e with e1 | e1
    · exact h3 e1
    · omega)).trans (h.block i hi h1 h2 h3), fun q e => by
    rcases k.at_ q e with e1 | e1
    · exact h.at_ q e1
    · exact .inr (Nat.le_trans h.size e1)⟩
theorem Tm.below (h : Tm g mb v w v' w1) (hb : Below w1.heap.size w1 w2) : Tm g mb v w v' w2 :=
  h.trans (Tm.of_turn ((Turn.refl g v' w1).below hb) mb)
theorem Tm.alloc (h : Tm g mb v w v' w1) (o : Obj) : Tm g mb v w v' (w1.alloc o) := h.below (below_alloc w1 o)
theorem Tm.drew (h : Tm g mb v w v' w1) : Tm g mb v w v' w1.drew := ⟨h.os, h.tape, h.output, h.size, h.block, h.at_⟩
theorem Tm.drewN (h : Tm g mb v w v' w1) (i : Nat) : Tm g mb v w v' (w1.drewN i) := ⟨h.os, h.tape, h.output, h.size, h.block, h.at_⟩
theorem Tm.ofDrew (h : Tm g mb v w.drew v' w1) : Tm g mb v w v' w1 := ⟨h.os, h.tape, h.output, h.size, h.block, h.at_⟩
/-- The map alone turned. -/
theorem Tm.store (h : Tm g mb v w v' w1) (hg : w1.grownBy w2 (some mb)) : Tm g mb v w v' w2 :=
  h.trans ⟨hg.os, hg.tape, hg.output, hg.size, fun k hk _ h2 _ => hg.block k hk (fun e => h2 (by injection e)), fun _ e => .inl e⟩
theorem Tm.low (t : Tm g mb v w v' w1) (hg : B ≤ g) (hm : B ≤ mb) (hv : ∀ k, v.ownBlock = some k → B ≤ k) (hB : B ≤ w.heap.size) : Below B w w1 :=
  ⟨t.os, t.tape, t.output, t.size, fun k hk => t.block k (by omega) (by omega) (by omega) (fun e => by have := hv k e; omega)⟩
theorem Tm.cell {q : Nat} {x : Value} (t : Tm g mb v w v' w1) (h : w.cell? ⟨q, i, none⟩ = some x) (hg : q ≠ g) (hm : q ≠ mb) (hv : v.ownBlock ≠ some q) : w1.cell? ⟨q, i, none⟩ = some x :=
  (World.cell?_of_block (t.block q (World.block_lt_of_cell? w _ h) hg hm hv)).trans h
theorem Sp.len (h : Sp B g mb n w v z) : z.length = n * 3 := h.cir.len
theorem Sp.below (h : Sp B g mb n w v z) (hb : Below w.heap.size w w1) : Sp B g mb n w1 v z :=
  ⟨h.cir.below hb, h.map.kept (row := none) ⟨hb.os, hb.tape, hb.output, hb.size, fun k hk _ => hb.block k hk⟩ (by simp), h.ge, h.mge, h.ok, h.one⟩
theorem Sp.alloc (h : Sp B g mb n w v z) (o : Obj) : Sp B g mb n (w.alloc o) v z := h.below (below_alloc w o)
theorem Sp.drew (h : Sp B g mb n w v z) : Sp B g mb n w.drew v z := ⟨h.cir.drew, h.map, h.ge, h.mge, h.ok, h.one⟩
theorem Sp.drewN (h : Sp B g mb n w v z) (i : Nat) : Sp B g mb n (w.drewN i) v z := ⟨h.cir.drewN i, h.map, h.ge, h.mge, h.ok, h.one⟩
theorem Sp.mlt (h : Sp B g mb n w v z) : mb < w.heap.size := h.map.lt
/-- The map is no block of cells. -/
theorem Sp.mne (h : Sp B g mb n w v z) {q : Nat} {xs : Array Value} {T : TypeId} {y : Nat × Nat} (hh : w.heap[q]? = some (.cells xs T y)) : q ≠ mb := fun e => by
  obtain ⟨es, clock, hb, _⟩ := h.map
  subst e
  rw [hh] at hb
  cases hb
theorem Sp.gne (h : Sp B g mb n w v z) : g ≠ mb := h.mne h.cir.box
theorem Sp.own_ne {T : TypeId} {s m : Nat} {u : Value} {xs : List Value} {B' : Nat} (h : Sp B g mb n w v z) (ho : w.ownsRow B' T s u m xs) : u.ownBlock ≠ some mb := fun e => by
  rcases ho.2 with ⟨e1, _⟩ | ⟨q, cap, cur, e1, _, hh, _⟩
  · rw [e1] at e; cases e
  · rw [e1] at e
    injection e with e
    exact h.mne hh e
theorem Sp.vne (h : Sp B g mb n w v z) : v.ownBlock ≠ some mb := h.own_ne h.cir.own
/-- Where the map lies, in the box. -/
theorem Sp.known (h : Sp B g mb n w v z) : w.cell? ⟨g, 2, none⟩ = some (.map (some mb)) := (blk (i := 2) h.cir.box rfl).1
theorem Sp.gates (h : Sp B g mb n w v z) : w.cell? ⟨g, 0, none⟩ = some v := (blk (i := 0) h.cir.box rfl).1
/-- The gates and the box turn, the map does not. -/
theorem Sp.turned (h : Sp B g mb n w v z) (t : Turn g v w v' w1) : w1.ownsMap Try.prog 40 (plainElem Try.prog 3) mb n (knD z n) := by
  have h1 := h.mlt
  have h2 := h.gne
  have h3 := h.vne
  obtain ⟨es, clock, hb, F, hs, hD⟩ := h.map
  exact ⟨es, clock, (t.block mb h1 (fun e => h2 e.symm) h3).trans hb, F, hs, hD⟩
/-- The map turns, the gates and the box do not. -/
theorem Cir.store {r : Rest} (h : Cir B g w v r n z) (hg : w.grownBy w1 (some mb)) (n1 : g ≠ mb) (n2 : v.ownBlock ≠ some mb) : Cir B g w1 v r n z :=
  ⟨(hg.block g h.lt (fun e => n1 (by injection e))).trans h.box, h.own.kept hg (.inr n2), h.ne⟩
/-- A gate's wire, if it has one. -/
theorem Sp.look (h : Sp B g mb n w v z) {k a b : Int} (hs : smallG k a b) (hn : n ≤ 1000000) :
    (Instr.lookup 74 (.map (some mb)) (.agg #[.int .i64 k, .int .i64 a, .int .i64 b]) true).run Try.prog w = .ok (.tuple #[.int .i64 (if findG z k a b n < n then ((findG z k a b n : Nat) : Int) else 0), .bool (decide (findG z k a b n < n))]) w := by
  obtain ⟨h1, h2, h3⟩ := knD_find (fun i hi => smalls h.ok hn hi) h.one hs
  obtain ⟨x, ps, hr, hv⟩ := h.map.look_ok keyG Try.underlying74 (show (zeroValue 3).run Try.prog w = .ok (.int .i64 0) w by kernel_rfl) (plainElem_int Try.underlying3 (by decide)) (key_gate hs)
  obtain ⟨y, rfl, hy, _⟩ := plainElem_int_inv Try.underlying3 hv
  simp only [Prod.mk.injEq] at hy
  have hy1 := hy.1
  rw [hr, h1]
  by_cases hf : findG z k a b n < n
  · rw [if_pos hf]
    rw [h2 hf] at hy1
    simp only [DataW.lit.injEq, Lit.int.injEq, true_and] at hy1
    rw [hy1]
  · rw [if_neg hf]
    rw [h3 hf] at hy1
    simp only [DataW.lit.injEq, Lit.int.injEq, true_and] at hy1
    rw [hy1]
end
/-- A gate was found or appended: its wire, and the simplification. -/
def PutK (B g mb n : Nat) (r : List Int × Int) (v : Value) (w : World) (e : Ending) (w' : World) : Prop :=
  ∃ (v' : Value) (n' : Nat), e = .returned (.int .i64 r.2) ∧ n ≤ n' ∧ n' ≤ n + 1 ∧ Sp B g mb n' w' v' r.1 ∧ Tm g mb v w v' w'
/-- The store of a new gate's wire, for the walk. -/
theorem wpList_kn_put (w : World) {ops : Array Oper} {rest : List Oper} {o : Oper} {a : Act} {Q : Exit → Act → World → Prop}
    (hg : o.guard = none) (m x v : Operand) (hop : o.op = Op.mapUpdate 74 m x v) {mb n : Nat} {z : List Int} {k s t : Int} (h : w.ownsMap Try.prog 40 (plainElem Try.prog 3) mb n (knD z n)) (hz : z.length = n * 3) (hn : n ≤ 1000000) (hs : smallG k s t)
    (hm : a.eval m = .map (some mb)) (hx : a.eval x = .agg #[.int .i64 k, .int .i64 s, .int .i64 t]) (hv : a.eval v = .int .i64 (n : Int))
    (hK : ∀ w', w'.ownsMap Try.prog 40 (plainElem Try.prog 3) mb (n + 1) (knD (putG z k s t) (n + 1)) → w.grownBy w' (some mb) → wpList Try.prog ops Q rest (a.put o.dst undef) w') : wpList Try.prog ops Q (o :: rest) a w := by
  refine wpList_mapUpdate_own w hg m x v _ hop _ _ keyG Try.underlying74 _ mb n _ hm h (by unfold maxLen; omega) _ _ _ hx hv (key_gate hs) _ [] (plainElem_int Try.underlying3 (WalkArith.wf_i64 (by omega))) ?_
  intro w' h1 h2
  rw [← knD_put hz] at h1
  exact hK w' h1 h2
end Go.Proofs.Ytkcknejkldhmaaa
