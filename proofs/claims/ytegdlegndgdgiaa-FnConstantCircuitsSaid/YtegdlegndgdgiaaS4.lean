/- Simplification, the program's: the map that has the wire of each gate. No condition. And what goes with it. -/
import Derived.Test.YtegdlegndgdgiaaProg
import Derived.Test.YtegdlegndgdgiaaS1
import Derived.Test.YtegdlegndgdgiaaW2
import Derived.Maps.OwnSet
import Derived.DeepKeys4
import Derived.Test.YtegdlegndgdgiaaSmT
import Derived.Deep.RegionLaw
import Derived.Deep.RegionHeld3
namespace Go.Proofs.Ytegdlegndgdgiaa
open Go Go.RowKit Go.Maps
/-- A gate as a key reads. -/
def kg (k a b : Int) : Lit := .string (keyBytes [.int .i64 k, .int .i64 a, .int .i64 b])
/-- The numbers of a gate that may be a key. -/
def smallG (k a b : Int) : Prop := (0 ≤ k ∧ k ≤ 1000000) ∧ (0 ≤ a ∧ a ≤ 1000000) ∧ 0 ≤ b ∧ b ≤ 1000000
theorem small_gate {k a b : Int} {n : Nat} (h : gateOk k a b n) (hn : n ≤ 1000000) : smallG k a b := by
  unfold gateOk at h
  unfold smallG
  omega
theorem lawG : WideMaps.KeyLaw Try.prog 45 := deep_law (m := 2) (by omega) (by kernel_rfl) (by kernel_rfl) (by kernel_rfl)
theorem keyG : Keyed Try.prog 45 := Keyed.of_law lawG
theorem size_types : ∃ d, Try.prog.types.size = d + 1 := ⟨Try.prog.types.size - 1, by
  have : 0 < Try.prog.types.size := of_decide_eq_true (by kernel_rfl)
  omega⟩
theorem key_gate {k a b : Int} (h : smallG k a b) : keyOf Try.prog 45 (.agg #[.int .i64 k, .int .i64 a, .int .i64 b]) = some (kg k a b) := by
  obtain ⟨h1, h2, h3⟩ := h
  have w1 : (Lit.int .i64 k).wf = true := WalkArith.wf_i64 (by omega)
  have w2 : (Lit.int .i64 a).wf = true := WalkArith.wf_i64 (by omega)
  have w3 : (Lit.int .i64 b).wf = true := WalkArith.wf_i64 (by omega)
  have e1 : Try.prog.keyType 45 = true := by kernel_rfl
  have e2 : Try.prog.cellsOf 45 = 3 := by kernel_rfl
  have e3 : Try.prog.cellsOf 3 = 1 := by kernel_rfl
  obtain ⟨d, hd⟩ := size_types
  have e4 : (Value.agg #[.int .i64 k, .int .i64 a, .int .i64 b]).formed Try.prog 45 = true := by simp [Value.formed, Try.underlying45, e2]
  unfold keyOf
  simp only [Try.underlying45, e1, e4, Bool.and_self, if_true, hd]
  simp [Program.keyLits, Try.underlying45, Try.underlying3, e2, e3, w1, w2, w3, Value.cells, kg]
theorem kg_ne {k a b k' a' b' : Int} (h : smallG k a b) (h' : smallG k' a' b') (hne : ¬ (k' = k ∧ a' = a ∧ b' = b)) : kg k a b ≠ kg k' a' b' := fun e => by
  have h1 := key_gate h
  have h2 := key_gate h'
  rw [← e] at h2
  have h3 := lawG.inj h1 h2
  injection h3 with h3
  have h4 := congrArg (fun x : Array Value => (x[0]?, x[1]?, x[2]?)) h3
  simp at h4
  exact hne ⟨h4.1.symm, h4.2.1.symm, h4.2.2.symm⟩
theorem kg_key (k a b : Int) : WideAt.IsKeyLit (kg k a b) := trivial
/-- The map as it reads: the first n gates, each at its wire. -/
def knD (z : List Int) : Nat → DataW Unit
  | 0 => .map []
  | i + 1 => (knD z i).put (kg (gk z i) (ga z i) (gb z i)) (.lit (.int .i64 (i : Int)))
theorem knD_map (z : List Int) (n : Nat) : IsMap (knD z n) := by
  induction n with
  | zero => exact isMap_empty
  | succ n ih => exact ih.put _ _
section
variable {z : List Int} {n : Nat} {k a b : Int}
theorem smalls (hg : gatesOk z n) (hn : n ≤ 1000000) {i : Nat} (hi : i < n) : smallG (gk z i) (ga z i) (gb z i) := small_gate (hg i hi) (by omega)
theorem knD_find (hz : ∀ i, i < n → smallG (gk z i) (ga z i) (gb z i)) (ho : once z n) (h : smallG k a b) :
    Maps.has (knD z n) (kg k a b) = decide (findG z k a b n < n) ∧ (findG z k a b n < n → ∀ zd, (knD z n).atKey (kg k a b) zd = .lit (.int .i64 ((findG z k a b n : Nat) : Int))) ∧ (¬ findG z k a b n < n → ∀ zd, (knD z n).atKey (kg k a b) zd = zd) := by
  induction n with
  | zero => exact ⟨rfl, fun h => by omega, fun _ _ => rfl⟩
  | succ n ih =>
    obtain ⟨i1, i2, i3⟩ := ih (fun i hi => hz i (by omega)) (fun i j h1 h2 => ho i j h1 (by omega))
    have hle := findG_le z k a b n
    by_cases hG : isG z k a b n
    · have hno : ¬ findG z k a b n < n := fun hlt => by
        have hy := findG_yes hlt
        have h1 := ho (findG z k a b n) n hlt (by omega)
        unfold isG at hG hy h1
        rw [hG.1, hG.2.1, hG.2.2] at h1
        exact h1 hy
      have e : findG z k a b (n + 1) = n := by simp only [findG]; rw [if_neg hno, if_pos hG]
      have ek : kg (gk z n) (ga z n) (gb z n) = kg k a b := by unfold isG at hG; rw [hG.1, hG.2.1, hG.2.2]
      rw [e]
      refine ⟨?_, fun _ zd => ?_, fun h2 => by omega⟩
      · rw [decide_eq_true (by omega)]
        simp only [knD, ek]
        exact has_put_same (knD_map z n) (kg_key k a b) _
      · simp only [knD, ek]
        exact atKey_put_same (knD_map z n) (kg_key k a b) _ zd
    · have hne : kg k a b ≠ kg (gk z n) (ga z n) (gb z n) := kg_ne h (hz n (by omega)) hG
      simp only [knD, has_put_other hne, atKey_put_other hne]
      by_cases hf : findG z k a b n < n
      · have e : findG z k a b (n + 1) = findG z k a b n := by simp only [findG]; rw [if_pos hf]
        rw [e, i1, decide_eq_true hf, decide_eq_true (by omega)]
        exact ⟨rfl, fun _ => i2 hf, fun h2 => by omega⟩
      · have e : findG z k a b (n + 1) = n + 1 := by simp only [findG]; rw [if_neg hf, if_neg hG]
        rw [e, i1, decide_eq_false hf, decide_eq_false (by omega)]
        exact ⟨rfl, fun h2 => by omega, fun _ => i3 hf⟩
theorem knD_pre {y : List Int} : ∀ {n : Nat}, (∀ i, i < n → gk y i = gk z i ∧ ga y i = ga z i ∧ gb y i = gb z i) → knD y n = knD z n
  | 0, _ => rfl
  | n + 1, h => by
    obtain ⟨h1, h2, h3⟩ := h n (by omega)
    simp only [knD]
    rw [knD_pre (fun i hi => h i (by omega)), h1, h2, h3]
/-- A gate is appended: it is the map's next. -/
theorem knD_put (hz : z.length = n * 3) : knD (putG z k a b) (n + 1) = (knD z n).put (kg k a b) (.lit (.int .i64 (n : Int))) := by
  obtain ⟨e1, e2, e3⟩ := gate_last k a b hz
  simp only [knD]
  rw [show gk (putG z k a b) n = k from e1, show ga (putG z k a b) n = a from e2, show gb (putG z k a b) n = b from e3]
  rw [knD_pre (z := z) (y := putG z k a b) fun i hi => ⟨gk_left hz hi, ga_left hz hi, gb_left hz hi⟩]
end
/-- What a simplification turns: its box, its map, the block of its gates, and new memory. -/
structure Tm (g mb : Nat) (v : Value) (w : World) (v' : Value) (w' : World) : Prop where
  os : w'.os = w.os
  tape : w'.tape = w.tape
  output : w'.output = w.output
  size : w.heap.size ≤ w'.heap.size
  block : ∀ k, k < w.heap.size → k ≠ g → k ≠ mb → v.ownBlock ≠ some k → w'.heap[k]? = w.heap[k]?
  at_ : ∀ b, v'.ownBlock = some b → v.ownBlock = some b ∨ w.heap.size ≤ b
/-- A simplification: the circuit that is made, without outputs, and the wire of each of its gates. -/
structure Sp (B g mb n : Nat) (w : World) (v : Value) (z : List Int) : Prop where
  cir : Cir B g w v ⟨[.slice none 0 0, .map (some mb)], 96⟩ n z
  map : w.ownsMap Try.prog 45 (plainElem Try.prog 3) mb n (knD z n)
  ge : B ≤ g
  mge : B ≤ mb
  ok : gatesOk z n
  one : once z n
section
variable {B g mb n i j b : Nat} {w w1 w2 : World} {v v' v'' : Value} {z us : List Int} {A : Option Addr}
theorem Tm.refl (g mb : Nat) (v : Value) (w : World) : Tm g mb v w v w := ⟨rfl, rfl, rfl, Nat.le_refl _, fun _ _ _ _ _ => rfl, fun _ e => .inl e⟩
theorem Tm.of_turn (t : Turn g v w v' w1) (mb : Nat) : Tm g mb v w v' w1 := ⟨t.os, t.tape, t.output, t.size, fun k hk h1 _ h3 => t.block k hk h1 h3, t.at_⟩
theorem Tm.trans (h : Tm g mb v w v' w1) (k : Tm g mb v' w1 v'' w2) : Tm g mb v w v'' w2 :=
  ⟨k.os.trans h.os, k.tape.trans h.tape, k.output.trans h.output, Nat.le_trans h.size k.size, fun i hi h1 h2 h3 => (k.block i (Nat.lt_of_lt_of_le hi h.size) h1 h2 (fun e => by
    rcases h.at_ i e with e1 | e1
    · exact h3 e1
    · omega)).trans (h.block i hi h1 h2 h3), fun q e => by
    rcases k.at_ q e with e1 | e1
    · exact h.at_ q e1
    · exact .inr (Nat.le_trans h.size e1)⟩
theorem Tm.below (h : Tm g mb v w v' w1) (hb : Below w1.heap.size w1 w2) : Tm g mb v w v' w2 :=
  h.trans (Tm.of_turn ((Turn.refl g v' w1).below hb) mb)
theorem Tm.alloc (h : Tm g mb v w v' w1) (o : Obj) : Tm g mb v w v' (w1.alloc o) := h.below (below_alloc w1 o)
theorem Tm.drew (h : Tm g mb v w v' w1) : Tm g mb v w v' w1.drew := ⟨h.os, h.tape, h.output, h.size, h.block, h.at_⟩
theorem Tm.drewN (h : Tm g mb v w v' w1) (i : Nat) : Tm g mb v w v' (w1.drewN i) := ⟨h.os, h.tape, h.output, h.size, h.block, h.at_⟩
theorem Tm.ofDrew (h : Tm g mb v w.drew v' w1) : Tm g mb v w v' w1 := ⟨h.os, h.tape, h.output, h.size, h.block, h.at_⟩
/-- The map alone turned. -/
theorem Tm.store (h : Tm g mb v w v' w1) (hg : w1.grownBy w2 (some mb)) : Tm g mb v w v' w2 :=
  h.trans ⟨hg.os, hg.tape, hg.output, hg.size, fun k hk _ h2 _ => hg.block k hk (fun e => h2 (by injection e)), fun _ e => .inl e⟩
theorem Tm.low (t : Tm g mb v w v' w1) (hg : B ≤ g) (hm : B ≤ mb) (hv : ∀ k, v.ownBlock = some k → B ≤ k) (hB : B ≤ w.heap.size) : Below B w w1 :=
  ⟨t.os, t.tape, t.output, t.size, fun k hk => t.block k (by omega) (by omega) (by omega) (fun e => by have := hv k e; omega)⟩
theorem Tm.cell {q : Nat} {x : Value} (t : Tm g mb v w v' w1) (h : w.cell? ⟨q, i, none⟩ = some x) (hg : q ≠ g) (hm : q ≠ mb) (hv : v.ownBlock ≠ some q) : w1.cell? ⟨q, i, none⟩ = some x :=
  (World.cell?_of_block (t.block q (World.block_lt_of_cell? w _ h) hg hm hv)).trans h
theorem Sp.len (h : Sp B g mb n w v z) : z.length = n * 3 := h.cir.len
theorem Sp.below (h : Sp B g mb n w v z) (hb : Below w.heap.size w w1) : Sp B g mb n w1 v z :=
  ⟨h.cir.below hb, h.map.kept (row := none) ⟨hb.os, hb.tape, hb.output, hb.size, fun k hk _ => hb.block k hk⟩ (by simp), h.ge, h.mge, h.ok, h.one⟩
theorem Sp.alloc (h : Sp B g mb n w v z) (o : Obj) : Sp B g mb n (w.alloc o) v z := h.below (below_alloc w o)
theorem Sp.drew (h : Sp B g mb n w v z) : Sp B g mb n w.drew v z := ⟨h.cir.drew, h.map, h.ge, h.mge, h.ok, h.one⟩
theorem Sp.drewN (h : Sp B g mb n w v z) (i : Nat) : Sp B g mb n (w.drewN i) v z := ⟨h.cir.drewN i, h.map, h.ge, h.mge, h.ok, h.one⟩
theorem Sp.mlt (h : Sp B g mb n w v z) : mb < w.heap.size := h.map.lt
/-- The map is no block of cells. -/
theorem Sp.mne (h : Sp B g mb n w v z) {q : Nat} {xs : Array Value} {T : TypeId} {y : Nat × Nat} (hh : w.heap[q]? = some (.cells xs T y)) : q ≠ mb := fun e => by
  obtain ⟨es, clock, hb, _⟩ := h.map
  subst e
  rw [hh] at hb
  cases hb
theorem Sp.gne (h : Sp B g mb n w v z) : g ≠ mb := h.mne h.cir.box
theorem Sp.own_ne {T : TypeId} {s m : Nat} {u : Value} {xs : List Value} {B' : Nat} (h : Sp B g mb n w v z) (ho : w.ownsRow B' T s u m xs) : u.ownBlock ≠ some mb := fun e => by
  rcases ho.2 with ⟨e1, _⟩ | ⟨q, cap, cur, e1, _, hh, _⟩
  · rw [e1] at e; cases e
  · rw [e1] at e
    injection e with e
    exact h.mne hh e
theorem Sp.vne (h : Sp B g mb n w v z) : v.ownBlock ≠ some mb := h.own_ne h.cir.own
/-- Where the map lies, in the box. -/
theorem Sp.known (h : Sp B g mb n w v z) : w.cell? ⟨g, 2, none⟩ = some (.map (some mb)) := (blk (i := 2) h.cir.box rfl).1
theorem Sp.gates (h : Sp B g mb n w v z) : w.cell? ⟨g, 0, none⟩ = some v := (blk (i := 0) h.cir.box rfl).1
/-- The gates and the box turn, the map does not. -/
theorem Sp.turned (h : Sp B g mb n w v z) (t : Turn g v w v' w1) : w1.ownsMap Try.prog 45 (plainElem Try.prog 3) mb n (knD z n) := by
  have h1 := h.mlt
  have h2 := h.gne
  have h3 := h.vne
  obtain ⟨es, clock, hb, F, hs, hD⟩ := h.map
  exact ⟨es, clock, (t.block mb h1 (fun e => h2 e.symm) h3).trans hb, F, hs, hD⟩
/-- The map turns, the gates and the box do not. -/
theorem Cir.store {r : Rest} (h : Cir B g w v r n z) (hg : w.grownBy w1 (some mb)) (n1 : g ≠ mb) (n2 : v.ownBlock ≠ some mb) : Cir B g w1 v r n z :=
  ⟨(hg.block g h.lt (fun e => n1 (by injection e))).trans h.box, h.own.kept hg (.inr n2), h.ne⟩
/-- A gate's wire, if it has one. -/
theorem Sp.look (h : Sp B g mb n w v z) {k a b : Int} (hs : smallG k a b) (hn : n ≤ 1000000) :
    (Instr.lookup 94 (.map (some mb)) (.agg #[.int .i64 k, .int .i64 a, .int .i64 b]) true).run Try.prog w = .ok (.tuple #[.int .i64 (if findG z k a b n < n then ((findG z k a b n : Nat) : Int) else 0), .bool (decide (findG z k a b n < n))]) w := by
  obtain ⟨h1, h2, h3⟩ := knD_find (fun i hi => smalls h.ok hn hi) h.one hs
  obtain ⟨x, ps, hr, hv⟩ := h.map.look_ok keyG Try.underlying94 (show (zeroValue 3).run Try.prog w = .ok (.int .i64 0) w by kernel_rfl) (plainElem_int Try.underlying3 (by decide)) (key_gate hs)
  obtain ⟨y, rfl, hy, _⟩ := plainElem_int_inv Try.underlying3 hv
  simp only [Prod.mk.injEq] at hy
  have hy1 := hy.1
  rw [hr, h1]
  by_cases hf : findG z k a b n < n
  · rw [if_pos hf]
    rw [h2 hf] at hy1
    simp only [DataW.lit.injEq, Lit.int.injEq, true_and] at hy1
    rw [hy1]
  · rw [if_neg hf]
    rw [h3 hf] at hy1
    simp only [DataW.lit.injEq, Lit.int.injEq, true_and] at hy1
    rw [hy1]
end
/-- A gate was found or appended: its wire, and the simplification. -/
def PutK (B g mb n : Nat) (r : List Int × Int) (v : Value) (w : World) (e : Ending) (w' : World) : Prop :=
  ∃ (v' : Value) (n' : Nat), e = .returned (.int .i64 r.2) ∧ n ≤ n' ∧ n' ≤ n + 1 ∧ Sp B g mb n' w' v' r.1 ∧ Tm g mb v w v' w'
/-- The store of a new gate's wire, for the walk. -/
theorem wpList_kn_put (w : World) {ops : Array Oper} {rest : List Oper} {o : Oper} {a : Act} {Q : Exit → Act → World → Prop}
    (hg : o.guard = none) (m x v : Operand) (hop : o.op = Op.mapUpdate 94 m x v) {mb n : Nat} {z : List Int} {k s t : Int} (h : w.ownsMap Try.prog 45 (plainElem Try.prog 3) mb n (knD z n)) (hz : z.length = n * 3) (hn : n ≤ 1000000) (hs : smallG k s t)
    (hm : a.eval m = .map (some mb)) (hx : a.eval x = .agg #[.int .i64 k, .int .i64 s, .int .i64 t]) (hv : a.eval v = .int .i64 (n : Int))
    (hK : ∀ w', w'.ownsMap Try.prog 45 (plainElem Try.prog 3) mb (n + 1) (knD (putG z k s t) (n + 1)) → w.grownBy w' (some mb) → wpList Try.prog ops Q rest (a.put o.dst undef) w') : wpList Try.prog ops Q (o :: rest) a w := by
  refine wpList_mapUpdate_own w hg m x v _ hop _ _ keyG Try.underlying94 _ mb n _ hm h (by unfold maxLen; omega) _ _ _ hx hv (key_gate hs) _ [] (plainElem_int Try.underlying3 (WalkArith.wf_i64 (by omega))) ?_
  intro w' h1 h2
  rw [← knD_put hz] at h1
  exact hK w' h1 h2
end Go.Proofs.Ytegdlegndgdgiaa

namespace Go.Proofs.Ytegdlegndgdgiaa
open Go Go.RowKit
set_option maxRecDepth 100000 in
set_option maxHeartbeats 1000000 in
theorem impl_wireOf (B g mb n : Nat) (v : Value) (z : List Int) (k a b : Int) (w : World) (h : Sp B g mb n w v z) (hB : B ≤ w.heap.size) (hn : n ≤ 900000) (ok : gateOk k a b n) :
    Calls Try.prog 147 #[.pointer (some ⟨g, 0, none⟩), .agg #[.int .i64 k, .int .i64 a, .int .i64 b]] w (PutK B g mb n (gateG z k a b) v w) := by
  have hs := small_gate (n := n) ok (by omega)
  have hl := h.len
  have hn3 : z.length / 3 = n := by omega
  have P1 := gateG_put (bs := []) hl h.ok ok
  have t0 := (Tm.refl g mb v w).alloc (.cells #[.int .i64 k, .int .i64 a, .int .i64 b] 45)
  have b0 := heap_alloc_new w (.cells #[.int .i64 k, .int .i64 a, .int .i64 b] 45)
  have h0 := h.alloc (.cells #[.int .i64 k, .int .i64 a, .int .i64 b] 45)
  have hB0 : B ≤ (w.alloc (.cells #[.int .i64 k, .int .i64 a, .int .i64 b] 45)).heap.size := by simp; omega
  have ng : w.heap.size ≠ g := by have := h.cir.lt; omega
  have nm : w.heap.size ≠ mb := by have := h.mlt; omega
  have nv : v.ownBlock ≠ some w.heap.size := fun e => by have := (h.cir.own.lt _ e).2; omega
  clear h
  go_enter Try.func147, Try.ntmps147
  go_upto_region 1 with (fail)
  generalize hw0 : w.alloc (.cells #[.int .i64 k, .int .i64 a, .int .i64 b] 45) = w0 at *
  clear hw0
  have hd := h0.drew
  have lk := hd.look hs (by omega)
  have c2 := h0.known
  obtain ⟨d0, _⟩ := blk (i := 0) b0 rfl
  obtain ⟨d1, _⟩ := blk (i := 1) b0 rfl
  obtain ⟨d2, _⟩ := blk (i := 2) b0 rfl
  have e2 : w0.drew.cell? ⟨g, 2, none⟩ = some (.map (some mb)) := c2
  have f0 : w0.drew.cell? ⟨w.heap.size, 0, none⟩ = some (.int .i64 k) := d0
  have f1 : w0.drew.cell? ⟨w.heap.size, 1, none⟩ = some (.int .i64 a) := d1
  have f2 : w0.drew.cell? ⟨w.heap.size, 2, none⟩ = some (.int .i64 b) := d2
  by_cases hf : findG z k a b n < n
  · rw [if_pos hf, decide_eq_true hf] at lk
    have E : Hid (gateG z k a b = (z, ((findG z k a b n : Nat) : Int))) := by
      unfold gateG
      rw [hn3, if_pos hf]
      exact Lib.hid rfl
    generalize ((findG z k a b n : Nat) : Int) = x at *
    have H := Lib.hid hd
    have T := Lib.hid t0.drew
    clear hd t0 h0 P1 hf c2 d0 d1 d2
    go_region
    all_goals
      go_wp2_with fail
      go_ret
      exact ⟨_, n, ret_int (by rw [E.out]), Nat.le_refl _, by omega, by rw [E.out]; exact H.out, T.out⟩
  · rw [if_neg hf, decide_eq_false hf] at lk
    have EG : gateG z k a b = (putG z k a b, nG z) := by
      unfold gateG
      rw [hn3, if_neg hf]
    have E := Lib.hid EG
    rw [EG] at P1
    have hpl : (putG z k a b).length = (n + 1) * 3 := putG_length k a b hl
    obtain ⟨n', p1, p2, p3, p4, _, _, p7⟩ := P1.ex
    obtain rfl : n' = n + 1 := by have := p3.len; simp only at this; omega
    have PP := Lib.hid (And.intro p4 (p7 hd.one))
    have T := Lib.hid t0.drew
    have H := Lib.hid hd
    have hn2 := nG_is hl
    clear P1 p1 p2 p3 p4 p7 t0 h0 EG hf c2 d0 d1 d2 hn3 hd
    go_region
    generalize hwa : w0.drew = wa at *
    have hBa : B ≤ wa.heap.size := by rw [← hwa]; exact hB0
    clear hwa hB0 lk e2
    have cP := impl_appendGate B g n v ⟨[.slice none 0 0, .map (some mb)], 96⟩ z k a b wa.drew H.out.cir.drew hBa (by omega)
    rw [hn2] at cP
    have g0 : wa.drew.cell? ⟨w.heap.size, 0, none⟩ = some (.int .i64 k) := f0
    have g1 : wa.drew.cell? ⟨w.heap.size, 1, none⟩ = some (.int .i64 a) := f1
    have g2 : wa.drew.cell? ⟨w.heap.size, 2, none⟩ = some (.int .i64 b) := f2
    go_wp2_with fail
    go_region_held3 (fun w' => w'.cell? ⟨w.heap.size, 0, none⟩ = some (.int .i64 k) ∧ w'.cell? ⟨w.heap.size, 1, none⟩ = some (.int .i64 a) ∧ w'.cell? ⟨w.heap.size, 2, none⟩ = some (.int .i64 b)) (first | exact ⟨g0, g1, g2⟩ | exact ⟨y0, y1, y2⟩) (first
      | (go_at_call 106; (with_reducible refine cP.mono ?_); rintro e w2 ⟨v', rfl, h2, t2⟩; (have y0 := t2.cell g0 ng nv); (have y1 := t2.cell g1 ng nv); (have y2 := t2.cell g2 ng nv)))
    have hm2 := (H.out.drew).turned t2
    have gm : g ≠ mb := H.out.gne
    have vm : v'.ownBlock ≠ some mb := fun e => by
      rcases t2.at_ mb e with e1 | e1
      · exact H.out.vne e1
      · have := H.out.mlt
        simp at e1
        omega
    obtain ⟨w3, hr, hm3, hg3⟩ := (show w2.drew.ownsMap Try.prog 45 (plainElem Try.prog 3) mb n (knD z n) from hm2).update keyG Try.underlying94 (by unfold maxLen; omega) (key_gate hs) (plainElem_int Try.underlying3 (show (Lit.int .i64 (n : Int)).wf = true from WalkArith.wf_i64 (by omega)))
    rw [← knD_put hl] at hm3
    have c5 : w2.drew.cell? ⟨g, 2, none⟩ = some (.map (some mb)) := (blk (i := 2) h2.box rfl).1
    have x0 : w2.drew.cell? ⟨w.heap.size, 0, none⟩ = some (.int .i64 k) := y0
    have x1 : w2.drew.cell? ⟨w.heap.size, 1, none⟩ = some (.int .i64 a) := y1
    have x2 : w2.drew.cell? ⟨w.heap.size, 2, none⟩ = some (.int .i64 b) := y2
    have S := Lib.hid (show Sp B g mb (n + 1) w3 v' (putG z k a b) from ⟨h2.drew.store hg3 gm vm, hm3, H.out.ge, H.out.mge, PP.out.1, PP.out.2⟩)
    have TT := Lib.hid ((T.out.trans (Tm.of_turn t2 mb).ofDrew).drew.store hg3)
    clear hm2 hm3 hg3 h2 t2 cP y0 y1 y2 g0 g1 g2 f0 f1 f2
    go_wp2_with fail
    go_region
    all_goals
      go_wp2_with fail
      go_ret
      exact ⟨_, n + 1, ret_int (by rw [E.out]; exact hn2.symm), by omega, Nat.le_refl _, by rw [E.out]; exact S.out, TT.out⟩
theorem impl_sconstant (B g mb n : Nat) (v : Value) (z : List Int) (bit : Int) (hb : isBit bit) (w : World) (h : Sp B g mb n w v z) (hB : B ≤ w.heap.size) (hn : n ≤ 900000) :
    Calls Try.prog 157 #[.pointer (some ⟨g, 0, none⟩), .int .i64 bit] w (PutK B g mb n (ordG z 2 bit 0) v w) := by
  have cW := impl_wireOf B g mb n v z 2 bit 0 w h hB hn (.inr (.inl ⟨rfl, hb, rfl⟩))
  rw [← show ordG z 2 bit 0 = gateG z 2 bit 0 by unfold ordG; rw [if_neg (by omega)]] at cW
  go_enter Try.func157, Try.ntmps157
  go_wp2_with fail
  refine cW.mono ?_
  rintro e w1 ⟨v', n', rfl, h1, h2, h3, h4⟩
  have H := Lib.hid h3
  have T := Lib.hid h4
  clear h3 h4 cW h
  go_wp2_with fail
  go_ret
  exact ⟨v', n', rfl, h1, h2, H.out, T.out⟩
theorem impl_isConstant (B g mb n : Nat) (v : Value) (z : List Int) (i : Nat) (w : World) (h : Sp B g mb n w v z) (hi : i < n) :
    Calls Try.prog 159 #[.pointer (some ⟨g, 0, none⟩), .int .i64 (i : Int)] w fun e w' => e = .returned (.bool (gk z i == 2)) ∧ w' = w := by
  obtain ⟨q, c, rfl, c0, -, -⟩ := h.cir.gate hi
  have g0 := h.gates
  have i0 : (0 : Int) ≤ i := by omega
  have i1 : (i : Int) < n := by omega
  generalize gk z i = k at *
  clear h
  go_enter Try.func159, Try.ntmps159
  go_wp2_with fail
  go_ret
  exact ⟨rfl, rfl⟩
set_option maxRecDepth 100000 in
set_option maxHeartbeats 1000000 in
theorem impl_negation (B g mb n : Nat) (v : Value) (z : List Int) (i : Nat) (hi : i < n) (w : World) (h : Sp B g mb n w v z) (hB : B ≤ w.heap.size) (hn : n ≤ 900000) :
    Calls Try.prog 146 #[.pointer (some ⟨g, 0, none⟩), .int .i64 (i : Int)] w (PutK B g mb n (notG z i) v w) := by
  have ok := h.ok i hi
  have al := below_alloc w (.cells #[.int .i64 (gk z i), .int .i64 (ga z i), .int .i64 (gb z i)] 45)
  have b0 := heap_alloc_new w (.cells #[.int .i64 (gk z i), .int .i64 (ga z i), .int .i64 (gb z i)] 45)
  have h0 := h.below al
  have t0 := (Tm.refl g mb v w).below al
  have hB0 : B ≤ (w.alloc (.cells #[.int .i64 (gk z i), .int .i64 (ga z i), .int .i64 (gb z i)] 45)).heap.size := by simp; omega
  obtain ⟨q, c, hv, c0, c1, c2⟩ := h.cir.gate hi
  have g0 := h.gates
  have i0 : (0 : Int) ≤ i := by omega
  have i1 : (i : Int) < n := by omega
  have E : Hid (notG z i = if gk z i = 2 then ordG z 2 (1 - ga z i) 0 else if gk z i = 5 then (z, ga z i) else ordG z 5 i 0) := by
    unfold notG
    rw [Int.toNat_natCast]
    exact Lib.hid rfl
  generalize gk z i = k at *
  generalize ga z i = a at *
  generalize gb z i = b at *
  have H := Lib.hid h0
  have T := Lib.hid t0
  have V := Lib.hid hv
  rw [hv] at g0
  clear h h0 t0 al hv
  by_cases h2 : k = 2
  · have hbit : isBit (1 - a) := by unfold gateOk at ok; unfold isBit; omega
    have a01 : 0 ≤ a ∧ a ≤ 1 := by unfold gateOk at ok; omega
    have cC := impl_sconstant B g mb n v z (1 - a) hbit _ H.out hB0 hn
    have E2 := Lib.hid (E.out.trans (if_pos h2))
    subst h2
    clear E ok
    obtain ⟨a0, a1⟩ := a01
    go_enter Try.func146, Try.ntmps146
    go_wp2_with fail
    refine cC.mono ?_
    rintro e w1 ⟨v', n', rfl, h1, h2, h3, h4⟩
    have H3 := Lib.hid h3
    have T3 := Lib.hid (T.out.trans h4)
    clear h3 h4 cC
    go_wp2_with fail
    go_ret
    exact ⟨v', n', ret_int (by rw [E2.out]), h1, h2, by rw [E2.out]; exact H3.out, T3.out⟩
  · by_cases h5 : k = 5
    · have E2 := Lib.hid (E.out.trans ((if_neg h2).trans (if_pos h5)))
      subst h5
      clear E ok
      go_enter Try.func146, Try.ntmps146
      go_wp2_with fail
      go_ret
      exact ⟨v, n, ret_int (by rw [E2.out]), Nat.le_refl _, by omega, by rw [E2.out]; exact H.out, T.out⟩
    · have E2 := Lib.hid (E.out.trans ((if_neg h2).trans (if_neg h5)))
      have e2 : (k == 2) = false := beq_eq_false_iff_ne.2 h2
      have e5 : (k == 5) = false := beq_eq_false_iff_ne.2 h5
      have cW := impl_wireOf B g mb n v z 5 i 0 _ H.out hB0 hn (.inr (.inr (.inr ⟨rfl, ⟨by omega, by omega⟩, rfl⟩)))
      rw [← show ordG z 5 i 0 = gateG z 5 i 0 by unfold ordG; rw [if_neg (by omega)]] at cW
      clear E ok h2 h5
      go_enter Try.func146, Try.ntmps146
      go_wp2_with fail
      refine cW.mono ?_
      rintro e w1 ⟨v', n', rfl, h1, h2, h3, h4⟩
      have H3 := Lib.hid h3
      have T3 := Lib.hid (T.out.trans h4)
      clear h3 h4 cW
      go_wp2_with fail
      go_ret
      exact ⟨v', n', ret_int (by rw [E2.out]), h1, h2, by rw [E2.out]; exact H3.out, T3.out⟩
end Go.Proofs.Ytegdlegndgdgiaa

namespace Go.Proofs.Ytegdlegndgdgiaa
open Go Go.RowKit
/-- The rules for two operands, in the program's order. -/
theorem ord_min (z : List Int) (k : Int) (hk : k = 3 ∨ k = 4) (i j : Nat) : ordG z k i j = gateG z k ((min i j : Nat) : Int) ((max i j : Nat) : Int) := by
  unfold ordG
  by_cases h : j < i
  · rw [if_pos ⟨by omega, hk⟩, Nat.min_eq_right (by omega), Nat.max_eq_left (by omega)]
  · rw [if_neg (by omega), Nat.min_eq_left (by omega), Nat.max_eq_right (by omega)]
theorem valG_yes {z : List Int} {i : Nat} (h : gk z i = 2) : valG z i = ga z i := by unfold valG; rw [Int.toNat_natCast, if_pos h]
theorem valG_no {z : List Int} {i : Nat} (h : ¬ gk z i = 2) : valG z i = -1 := by unfold valG; rw [Int.toNat_natCast, if_neg h]
section
variable {z : List Int} {n i j : Nat}
theorem const_bit (hg : gatesOk z n) (hi : i < n) (h : gk z i = 2) : (ga z i = 0 ∨ ga z i = 1) ∧ gb z i = 0 := by
  have := hg i hi
  unfold gateOk at this
  omega
theorem xor_same : xorG z i i = ordG z 2 0 0 := by unfold xorG; rw [if_pos rfl]
theorem xor_fst (hne : i ≠ j) (hg : gatesOk z n) (hi : i < n) (h : gk z i = 2) : xorG z i j = if ga z i = 0 then (z, (j : Int)) else notG z j := by
  unfold xorG
  rw [if_neg (by omega), valG_yes h]
  by_cases h0 : ga z i = 0
  · rw [if_pos h0, if_pos h0]
  · rw [if_neg h0, if_neg h0, if_pos ((const_bit hg hi h).1.resolve_left h0)]
theorem xor_snd (hne : i ≠ j) (hg : gatesOk z n) (hj : j < n) (h : ¬ gk z i = 2) (h2 : gk z j = 2) : xorG z i j = if ga z j = 0 then (z, (i : Int)) else notG z i := by
  unfold xorG
  rw [if_neg (by omega), valG_no h, if_neg (by omega), if_neg (by omega), valG_yes h2]
  by_cases h0 : ga z j = 0
  · rw [if_pos h0, if_pos h0]
  · rw [if_neg h0, if_neg h0, if_pos ((const_bit hg hj h2).1.resolve_left h0)]
theorem xor_none (hne : i ≠ j) (h : ¬ gk z i = 2) (h2 : ¬ gk z j = 2) : xorG z i j = gateG z 3 ((min i j : Nat) : Int) ((max i j : Nat) : Int) := by
  unfold xorG
  rw [if_neg (by omega), valG_no h, if_neg (by omega), if_neg (by omega), valG_no h2, if_neg (by omega), if_neg (by omega), ord_min z 3 (.inl rfl)]
theorem zero_once (hz : z.length = n * 3) (hg : gatesOk z n) (ho : once z n) (hi : i < n) (h : gk z i = 2) (h0 : ga z i = 0) : ordG z 2 0 0 = (z, (i : Int)) := by
  have hb := (const_bit hg hi h).2
  have e : findG z 2 0 0 n = i := findG_is hi ⟨h, h0, hb⟩ (fun t ht => by
    have := ho t i ht hi
    rw [h, h0, hb] at this
    exact this)
  unfold ordG gateG
  rw [if_neg (by omega), show z.length / 3 = n by omega, e, if_pos hi]
theorem and_same : andG z i i = (z, (i : Int)) := by unfold andG; rw [if_pos rfl]
theorem and_fst (hne : i ≠ j) (hz : z.length = n * 3) (hg : gatesOk z n) (ho : once z n) (hi : i < n) (h : gk z i = 2) : andG z i j = if ga z i = 0 then (z, (i : Int)) else (z, (j : Int)) := by
  unfold andG
  rw [if_neg (by omega), valG_yes h]
  by_cases h0 : ga z i = 0
  · rw [if_pos h0, if_pos h0]
    exact zero_once hz hg ho hi h h0
  · rw [if_neg h0, if_neg h0, if_pos ((const_bit hg hi h).1.resolve_left h0)]
theorem and_snd (hne : i ≠ j) (hz : z.length = n * 3) (hg : gatesOk z n) (ho : once z n) (hj : j < n) (h : ¬ gk z i = 2) (h2 : gk z j = 2) : andG z i j = if ga z j = 0 then (z, (j : Int)) else (z, (i : Int)) := by
  unfold andG
  rw [if_neg (by omega), valG_no h, if_neg (by omega), if_neg (by omega), valG_yes h2]
  by_cases h0 : ga z j = 0
  · rw [if_pos h0, if_pos h0]
    exact zero_once hz hg ho hj h2 h0
  · rw [if_neg h0, if_neg h0, if_pos ((const_bit hg hj h2).1.resolve_left h0)]
theorem and_none (hne : i ≠ j) (h : ¬ gk z i = 2) (h2 : ¬ gk z j = 2) : andG z i j = gateG z 4 ((min i j : Nat) : Int) ((max i j : Nat) : Int) := by
  unfold andG
  rw [if_neg (by omega), valG_no h, if_neg (by omega), if_neg (by omega), valG_no h2, if_neg (by omega), if_neg (by omega), ord_min z 4 (.inr rfl)]
end
/-- Both operands, in which order. -/
theorem impl_constantFirst (B g mb n : Nat) (v : Value) (z : List Int) (i j : Nat) (w : World) (h : Sp B g mb n w v z) (hi : i < n) (hj : j < n) (r s : Nat) (hr : (r, s) = if gk z j = 2 ∧ ¬ gk z i = 2 then (j, i) else (i, j)) :
    Calls Try.prog 158 #[.pointer (some ⟨g, 0, none⟩), .int .i64 (i : Int), .int .i64 (j : Int)] w fun e w' => e = .returned (.tuple #[.int .i64 (r : Int), .int .i64 (s : Int)]) ∧ w' = w := by
  have ci := impl_isConstant B g mb n v z i w h hi
  have cj := impl_isConstant B g mb n v z j w h hj
  clear h
  by_cases h2 : gk z j = 2
  · rw [beq_iff_eq.2 h2] at cj
    by_cases h1 : gk z i = 2
    · rw [beq_iff_eq.2 h1] at ci
      rw [if_neg (by omega)] at hr
      injection hr with e1 e2
      subst e1 e2
      clear h1 h2
      go_enter Try.func158, Try.ntmps158
      go_wp2_with fail
      refine cj.mono ?_
      rintro e w1 ⟨rfl, rfl⟩
      go_wp2_with fail
      refine ci.mono ?_
      rintro e w2 ⟨rfl, rfl⟩
      go_wp2_with fail
      go_ret2
      exact ⟨rfl, rfl⟩
    · rw [beq_eq_false_iff_ne.2 h1] at ci
      rw [if_pos ⟨h2, h1⟩] at hr
      injection hr with e1 e2
      subst e1 e2
      clear h1 h2
      go_enter Try.func158, Try.ntmps158
      go_wp2_with fail
      refine cj.mono ?_
      rintro e w1 ⟨rfl, rfl⟩
      go_wp2_with fail
      refine ci.mono ?_
      rintro e w2 ⟨rfl, rfl⟩
      go_wp2_with fail
      go_ret2
      exact ⟨rfl, rfl⟩
  · rw [beq_eq_false_iff_ne.2 h2] at cj
    rw [if_neg (by omega)] at hr
    injection hr with e1 e2
    subst e1 e2
    clear h2 ci
    go_enter Try.func158, Try.ntmps158
    go_wp2_with fail
    refine cj.mono ?_
    rintro e w1 ⟨rfl, rfl⟩
    go_wp2_with fail
    go_ret2
    exact ⟨rfl, rfl⟩
set_option maxRecDepth 100000 in
set_option maxHeartbeats 1000000 in
theorem impl_sxor_ne (B g mb n : Nat) (v : Value) (z : List Int) (i j r s : Nat) (hne : i ≠ j) (hi : i < n) (hj : j < n) (hrs : (r, s) = if gk z j = 2 ∧ ¬ gk z i = 2 then (j, i) else (i, j)) (w : World) (h : Sp B g mb n w v z) (hB : B ≤ w.heap.size) (hn : n ≤ 900000)
    (E1 : gk z r = 2 → xorG z i j = if ga z r = 0 then (z, (s : Int)) else notG z s) (E2 : ¬ gk z r = 2 → xorG z i j = gateG z 3 ((min r s : Nat) : Int) ((max r s : Nat) : Int)) :
    Calls Try.prog 144 #[.pointer (some ⟨g, 0, none⟩), .int .i64 (i : Int), .int .i64 (j : Int)] w (PutK B g mb n (xorG z i j) v w) := by
  have cF := impl_constantFirst B g mb n v z i j w h hi hj r s hrs
  have hr : r < n ∧ s < n := by
    split at hrs
    · injection hrs with e1 e2; omega
    · injection hrs with e1 e2; omega
  have cR := impl_isConstant B g mb n v z r w h hr.1
  have en : ((i : Int) == (j : Int)) = false := beq_eq_false_iff_ne.2 (by omega)
  have r0 : (0 : Int) ≤ r := by omega
  have r1 : (r : Int) < n := by omega
  obtain ⟨hr1, hr2⟩ := hr
  clear hi hj
  by_cases h2 : gk z r = 2
  · have E := Lib.hid (E1 h2)
    rw [beq_iff_eq.2 h2] at cR
    obtain ⟨q, c, hv, -, c1, -⟩ := h.cir.gate hr1
    have g0 := h.gates
    rw [hv] at g0
    by_cases h0 : ga z r = 0
    · have e0 : (ga z r == 0) = true := beq_iff_eq.2 h0
      have E' := Lib.hid (E.out.trans (if_pos h0))
      have H := Lib.hid h
      generalize ga z r = a at *
      clear E E1 E2 h h0 h2 hv hrs
      go_enter Try.func144, Try.ntmps144
      go_wp2_with fail
      refine cF.mono ?_
      rintro e w1 ⟨rfl, rfl⟩
      go_wp2_with fail
      refine cR.mono ?_
      rintro e w2 ⟨rfl, rfl⟩
      go_wp2_with fail
      go_ret
      exact ⟨v, n, ret_int (by rw [E'.out]), Nat.le_refl _, by omega, by rw [E'.out]; exact H.out, Tm.refl _ _ _ _⟩
    · have e0 : (ga z r == 0) = false := beq_eq_false_iff_ne.2 h0
      have E' := Lib.hid (E.out.trans (if_neg h0))
      have H := Lib.hid h
      have cN := impl_negation B g mb n v z s hr2 w h hB hn
      generalize ga z r = a at *
      clear E E1 E2 h h0 h2 hv hrs
      go_enter Try.func144, Try.ntmps144
      go_wp2_with fail
      refine cF.mono ?_
      rintro e w1 ⟨rfl, rfl⟩
      go_wp2_with fail
      refine cR.mono ?_
      rintro e w2 ⟨rfl, rfl⟩
      go_wp2_with fail
      refine cN.mono ?_
      rintro e w3 ⟨v', n', rfl, p1, p2, p3, p4⟩
      have H3 := Lib.hid p3
      have T3 := Lib.hid p4
      clear p3 p4 cN
      go_wp2_with fail
      go_ret
      exact ⟨v', n', ret_int (by rw [E'.out]), p1, p2, by rw [E'.out]; exact H3.out, T3.out⟩
  · have E := Lib.hid (E2 h2)
    rw [beq_eq_false_iff_ne.2 h2] at cR
    have cW := impl_wireOf B g mb n v z 3 ((min r s : Nat) : Int) ((max r s : Nat) : Int) w h hB hn (.inr (.inr (.inl ⟨.inl rfl, ⟨by omega, by omega⟩, by omega, by omega⟩)))
    clear E1 E2 h h2
    have hsr : r ≠ s := by
      split at hrs
      · injection hrs with e1 e2; omega
      · injection hrs with e1 e2; omega
    clear hrs
    rcases Nat.lt_or_ge s r with hlt | hge
    · rw [Nat.min_eq_right (by omega), Nat.max_eq_left (by omega)] at cW E
      have d1 : (s : Int) < (r : Int) := by omega
      have d2 : ¬ (r : Int) < (s : Int) := by omega
      clear hlt hsr
      go_enter Try.func144, Try.ntmps144
      go_wp2_with fail
      refine cF.mono ?_
      rintro e w1 ⟨rfl, rfl⟩
      go_wp2_with fail
      refine cR.mono ?_
      rintro e w2 ⟨rfl, rfl⟩
      go_wp2_with fail
      refine cW.mono ?_
      rintro e w3 ⟨v', n', rfl, p1, p2, p3, p4⟩
      have H3 := Lib.hid p3
      have T3 := Lib.hid p4
      clear p3 p4 cW
      go_wp2_with fail
      go_ret
      exact ⟨v', n', ret_int (by rw [E.out]), p1, p2, by rw [E.out]; exact H3.out, T3.out⟩
    · rw [Nat.min_eq_left (by omega), Nat.max_eq_right (by omega)] at cW E
      have d1 : (r : Int) < (s : Int) := by omega
      have d2 : ¬ (s : Int) < (r : Int) := by omega
      clear hge hsr
      go_enter Try.func144, Try.ntmps144
      go_wp2_with fail
      refine cF.mono ?_
      rintro e w1 ⟨rfl, rfl⟩
      go_wp2_with fail
      refine cR.mono ?_
      rintro e w2 ⟨rfl, rfl⟩
      go_wp2_with fail
      refine cW.mono ?_
      rintro e w3 ⟨v', n', rfl, p1, p2, p3, p4⟩
      have H3 := Lib.hid p3
      have T3 := Lib.hid p4
      clear p3 p4 cW
      go_wp2_with fail
      go_ret
      exact ⟨v', n', ret_int (by rw [E.out]), p1, p2, by rw [E.out]; exact H3.out, T3.out⟩
set_option maxRecDepth 100000 in
set_option maxHeartbeats 1000000 in
theorem impl_sand_ne (B g mb n : Nat) (v : Value) (z : List Int) (i j r s : Nat) (hne : i ≠ j) (hi : i < n) (hj : j < n) (hrs : (r, s) = if gk z j = 2 ∧ ¬ gk z i = 2 then (j, i) else (i, j)) (w : World) (h : Sp B g mb n w v z) (hB : B ≤ w.heap.size) (hn : n ≤ 900000)
    (E1 : gk z r = 2 → andG z i j = if ga z r = 0 then (z, (r : Int)) else (z, (s : Int))) (E2 : ¬ gk z r = 2 → andG z i j = gateG z 4 ((min r s : Nat) : Int) ((max r s : Nat) : Int)) :
    Calls Try.prog 145 #[.pointer (some ⟨g, 0, none⟩), .int .i64 (i : Int), .int .i64 (j : Int)] w (PutK B g mb n (andG z i j) v w) := by
  have cF := impl_constantFirst B g mb n v z i j w h hi hj r s hrs
  have hr : r < n ∧ s < n := by
    split at hrs
    · injection hrs with e1 e2; omega
    · injection hrs with e1 e2; omega
  have cR := impl_isConstant B g mb n v z r w h hr.1
  have en : ((i : Int) == (j : Int)) = false := beq_eq_false_iff_ne.2 (by omega)
  have r0 : (0 : Int) ≤ r := by omega
  have r1 : (r : Int) < n := by omega
  obtain ⟨hr1, hr2⟩ := hr
  clear hi hj
  by_cases h2 : gk z r = 2
  · have E := Lib.hid (E1 h2)
    rw [beq_iff_eq.2 h2] at cR
    obtain ⟨q, c, hv, -, c1, -⟩ := h.cir.gate hr1
    have g0 := h.gates
    rw [hv] at g0
    by_cases h0 : ga z r = 0
    · have e0 : (ga z r == 0) = true := beq_iff_eq.2 h0
      have E' := Lib.hid (E.out.trans (if_pos h0))
      have H := Lib.hid h
      generalize ga z r = a at *
      clear E E1 E2 h h0 h2 hv hrs
      go_enter Try.func145, Try.ntmps145
      go_wp2_with fail
      refine cF.mono ?_
      rintro e w1 ⟨rfl, rfl⟩
      go_wp2_with fail
      refine cR.mono ?_
      rintro e w2 ⟨rfl, rfl⟩
      go_wp2_with fail
      go_ret
      exact ⟨v, n, ret_int (by rw [E'.out]), Nat.le_refl _, by omega, by rw [E'.out]; exact H.out, Tm.refl _ _ _ _⟩
    · have e0 : (ga z r == 0) = false := beq_eq_false_iff_ne.2 h0
      have E' := Lib.hid (E.out.trans (if_neg h0))
      have H := Lib.hid h
      have cN := True.intro
      generalize ga z r = a at *
      clear E E1 E2 h h0 h2 hv hrs
      go_enter Try.func145, Try.ntmps145
      go_wp2_with fail
      refine cF.mono ?_
      rintro e w1 ⟨rfl, rfl⟩
      go_wp2_with fail
      refine cR.mono ?_
      rintro e w2 ⟨rfl, rfl⟩
      go_wp2_with fail
      clear cN
      go_ret
      exact ⟨v, n, ret_int (by rw [E'.out]), Nat.le_refl _, by omega, by rw [E'.out]; exact H.out, Tm.refl _ _ _ _⟩
  · have E := Lib.hid (E2 h2)
    rw [beq_eq_false_iff_ne.2 h2] at cR
    have cW := impl_wireOf B g mb n v z 4 ((min r s : Nat) : Int) ((max r s : Nat) : Int) w h hB hn (.inr (.inr (.inl ⟨.inr rfl, ⟨by omega, by omega⟩, by omega, by omega⟩)))
    clear E1 E2 h h2
    have hsr : r ≠ s := by
      split at hrs
      · injection hrs with e1 e2; omega
      · injection hrs with e1 e2; omega
    clear hrs
    rcases Nat.lt_or_ge s r with hlt | hge
    · rw [Nat.min_eq_right (by omega), Nat.max_eq_left (by omega)] at cW E
      have d1 : (s : Int) < (r : Int) := by omega
      have d2 : ¬ (r : Int) < (s : Int) := by omega
      clear hlt hsr
      go_enter Try.func145, Try.ntmps145
      go_wp2_with fail
      refine cF.mono ?_
      rintro e w1 ⟨rfl, rfl⟩
      go_wp2_with fail
      refine cR.mono ?_
      rintro e w2 ⟨rfl, rfl⟩
      go_wp2_with fail
      refine cW.mono ?_
      rintro e w3 ⟨v', n', rfl, p1, p2, p3, p4⟩
      have H3 := Lib.hid p3
      have T3 := Lib.hid p4
      clear p3 p4 cW
      go_wp2_with fail
      go_ret
      exact ⟨v', n', ret_int (by rw [E.out]), p1, p2, by rw [E.out]; exact H3.out, T3.out⟩
    · rw [Nat.min_eq_left (by omega), Nat.max_eq_right (by omega)] at cW E
      have d1 : (r : Int) < (s : Int) := by omega
      have d2 : ¬ (s : Int) < (r : Int) := by omega
      clear hge hsr
      go_enter Try.func145, Try.ntmps145
      go_wp2_with fail
      refine cF.mono ?_
      rintro e w1 ⟨rfl, rfl⟩
      go_wp2_with fail
      refine cR.mono ?_
      rintro e w2 ⟨rfl, rfl⟩
      go_wp2_with fail
      refine cW.mono ?_
      rintro e w3 ⟨v', n', rfl, p1, p2, p3, p4⟩
      have H3 := Lib.hid p3
      have T3 := Lib.hid p4
      clear p3 p4 cW
      go_wp2_with fail
      go_ret
      exact ⟨v', n', ret_int (by rw [E.out]), p1, p2, by rw [E.out]; exact H3.out, T3.out⟩
end Go.Proofs.Ytegdlegndgdgiaa

namespace Go.Proofs.Ytegdlegndgdgiaa
open Go Go.RowKit
/-- A gate whose operands are new wires. -/
def addG (z : List Int) (k a b : Int) : List Int × Int := if k = 3 then xorG z a b else if k = 4 then andG z a b else if k = 5 then notG z a else ordG z k a b
def rewA (ts : List Int) (k a : Int) : Int := if one1 k then ts.getD a.toNat 0 else a
def rewB (ts : List Int) (k b : Int) : Int := if two k then ts.getD b.toNat 0 else b
theorem simG_add (y ts : List Int) (k a b : Int) : simG y ts k a b = addG y k (rewA ts k a) (rewB ts k b) := by
  unfold simG addG rewA rewB one1 two
  by_cases h3 : k = 3
  · subst h3; simp
  · by_cases h4 : k = 4
    · subst h4; simp
    · by_cases h5 : k = 5
      · subst h5; simp
      · simp [h3, h4, h5]
set_option maxRecDepth 100000 in
theorem impl_sxor (B g mb n : Nat) (v : Value) (z : List Int) (i j : Nat) (hi : i < n) (hj : j < n) (w : World) (h : Sp B g mb n w v z) (hB : B ≤ w.heap.size) (hn : n ≤ 900000) :
    Calls Try.prog 144 #[.pointer (some ⟨g, 0, none⟩), .int .i64 (i : Int), .int .i64 (j : Int)] w (PutK B g mb n (xorG z i j) v w) := by
  by_cases hne : i = j
  · subst hne
    have cC := impl_sconstant B g mb n v z 0 (by unfold isBit; omega) w h hB hn
    rw [← xor_same (i := i)] at cC
    clear h hj
    go_enter Try.func144, Try.ntmps144
    go_wp2_with fail
    refine cC.mono ?_
    rintro e w1 ⟨v', n', rfl, h1, h2, h3, h4⟩
    have H := Lib.hid h3
    have T := Lib.hid h4
    clear h3 h4 cC
    go_wp2_with fail
    go_ret
    exact ⟨v', n', rfl, h1, h2, H.out, T.out⟩
  by_cases hs : gk z j = 2 ∧ ¬ gk z i = 2
  · exact impl_sxor_ne B g mb n v z i j j i hne hi hj (by rw [if_pos hs]) w h hB hn (fun _ => xor_snd hne h.ok hj hs.2 hs.1) (fun e => absurd hs.1 e)
  · refine impl_sxor_ne B g mb n v z i j i j hne hi hj (by rw [if_neg hs]) w h hB hn (fun e => xor_fst hne h.ok hi e) (fun e => xor_none hne e (fun e2 => hs ⟨e2, e⟩))
set_option maxRecDepth 100000 in
theorem impl_sand (B g mb n : Nat) (v : Value) (z : List Int) (i j : Nat) (hi : i < n) (hj : j < n) (w : World) (h : Sp B g mb n w v z) (hB : B ≤ w.heap.size) (hn : n ≤ 900000) :
    Calls Try.prog 145 #[.pointer (some ⟨g, 0, none⟩), .int .i64 (i : Int), .int .i64 (j : Int)] w (PutK B g mb n (andG z i j) v w) := by
  have hz := h.len
  by_cases hne : i = j
  · subst hne
    have E := Lib.hid (and_same (z := z) (i := i))
    have H := Lib.hid h
    clear h hj
    go_enter Try.func145, Try.ntmps145
    go_wp2_with fail
    go_ret
    exact ⟨v, n, ret_int (by rw [E.out]), Nat.le_refl _, by omega, by rw [E.out]; exact H.out, Tm.refl _ _ _ _⟩
  by_cases hs : gk z j = 2 ∧ ¬ gk z i = 2
  · exact impl_sand_ne B g mb n v z i j j i hne hi hj (by rw [if_pos hs]) w h hB hn (fun _ => and_snd hne hz h.ok h.one hj hs.2 hs.1) (fun e => absurd hs.1 e)
  · refine impl_sand_ne B g mb n v z i j i j hne hi hj (by rw [if_neg hs]) w h hB hn (fun e => and_fst hne hz h.ok h.one hi e) (fun e => and_none hne e (fun e2 => hs ⟨e2, e⟩))
set_option maxRecDepth 100000 in
set_option maxHeartbeats 1000000 in
theorem impl_sadd (B g mb n : Nat) (v : Value) (z : List Int) (k a b : Int) (ok : gateOk k a b n) (w : World) (h : Sp B g mb n w v z) (hB : B ≤ w.heap.size) (hn : n ≤ 900000) :
    Calls Try.prog 102 #[.pointer (some ⟨g, 0, none⟩), .agg #[.int .i64 k, .int .i64 a, .int .i64 b]] w (PutK B g mb n (addG z k a b) v w) := by
  have al := below_alloc w (.cells #[.int .i64 k, .int .i64 a, .int .i64 b] 45)
  have b0 := heap_alloc_new w (.cells #[.int .i64 k, .int .i64 a, .int .i64 b] 45)
  have h0 := h.below al
  have t0 := (Tm.refl g mb v w).below al
  have hB0 : B ≤ (w.alloc (.cells #[.int .i64 k, .int .i64 a, .int .i64 b] 45)).heap.size := by simp; omega
  have T := Lib.hid t0
  clear h t0 al
  by_cases h3 : k = 3
  · subst h3
    obtain ⟨i, rfl⟩ : ∃ i : Nat, a = i := Int.eq_ofNat_of_zero_le (by unfold gateOk at ok; omega)
    obtain ⟨j, rfl⟩ : ∃ j : Nat, b = j := Int.eq_ofNat_of_zero_le (by unfold gateOk at ok; omega)
    have cC := impl_sxor B g mb n v z i j (by unfold gateOk at ok; omega) (by unfold gateOk at ok; omega) _ h0 hB0 hn
    have E := Lib.hid (show addG z 3 i j = xorG z i j from if_pos rfl)
    clear ok h0
    go_enter Try.func102, Try.ntmps102
    go_wp2_with fail
    refine cC.mono ?_
    rintro e w1 ⟨v', n', rfl, h1, h2, h3, h4⟩
    have H3 := Lib.hid h3
    have T3 := Lib.hid (T.out.trans h4)
    clear h3 h4 cC
    go_wp2_with fail
    go_ret
    exact ⟨v', n', ret_int (by rw [E.out]), h1, h2, by rw [E.out]; exact H3.out, T3.out⟩
  by_cases h4 : k = 4
  · subst h4
    obtain ⟨i, rfl⟩ : ∃ i : Nat, a = i := Int.eq_ofNat_of_zero_le (by unfold gateOk at ok; omega)
    obtain ⟨j, rfl⟩ : ∃ j : Nat, b = j := Int.eq_ofNat_of_zero_le (by unfold gateOk at ok; omega)
    have cC := impl_sand B g mb n v z i j (by unfold gateOk at ok; omega) (by unfold gateOk at ok; omega) _ h0 hB0 hn
    have E := Lib.hid (show addG z 4 i j = andG z i j from (if_neg (by omega)).trans (if_pos rfl))
    clear ok h0 h3
    go_enter Try.func102, Try.ntmps102
    go_wp2_with fail
    refine cC.mono ?_
    rintro e w1 ⟨v', n', rfl, h1, h2, h3, h4⟩
    have H3 := Lib.hid h3
    have T3 := Lib.hid (T.out.trans h4)
    clear h3 h4 cC
    go_wp2_with fail
    go_ret
    exact ⟨v', n', ret_int (by rw [E.out]), h1, h2, by rw [E.out]; exact H3.out, T3.out⟩
  by_cases h5 : k = 5
  · subst h5
    obtain ⟨i, rfl⟩ : ∃ i : Nat, a = i := Int.eq_ofNat_of_zero_le (by unfold gateOk at ok; omega)
    have cC := impl_negation B g mb n v z i (by unfold gateOk at ok; omega) _ h0 hB0 hn
    have E := Lib.hid (show addG z 5 i b = notG z i from (if_neg (by omega)).trans ((if_neg (by omega)).trans (if_pos rfl)))
    clear ok h0 h3 h4
    go_enter Try.func102, Try.ntmps102
    go_wp2_with fail
    refine cC.mono ?_
    rintro e w1 ⟨v', n', rfl, h1, h2, h3, h4⟩
    have H3 := Lib.hid h3
    have T3 := Lib.hid (T.out.trans h4)
    clear h3 h4 cC
    go_wp2_with fail
    go_ret
    exact ⟨v', n', ret_int (by rw [E.out]), h1, h2, by rw [E.out]; exact H3.out, T3.out⟩
  have cC := impl_wireOf B g mb n v z k a b _ h0 hB0 hn ok
  have E := Lib.hid (show addG z k a b = gateG z k a b from (if_neg h3).trans ((if_neg h4).trans ((if_neg h5).trans (by unfold ordG; rw [if_neg (by omega)]))))
  have e3 : (k == 3) = false := beq_eq_false_iff_ne.2 h3
  have e4 : (k == 4) = false := beq_eq_false_iff_ne.2 h4
  have e5 : (k == 5) = false := beq_eq_false_iff_ne.2 h5
  clear ok h0 h3 h4 h5
  go_enter Try.func102, Try.ntmps102
  go_wp2_with fail
  refine cC.mono ?_
  rintro e w1 ⟨v', n', rfl, h1, h2, h3, h4⟩
  have H3 := Lib.hid h3
  have T3 := Lib.hid (T.out.trans h4)
  clear h3 h4 cC
  go_wp2_with fail
  go_ret
  exact ⟨v', n', ret_int (by rw [E.out]), h1, h2, by rw [E.out]; exact H3.out, T3.out⟩
end Go.Proofs.Ytegdlegndgdgiaa

namespace Go.Proofs.Ytegdlegndgdgiaa
open Go Go.RowKit
/-- The box of the result behind the store of a gate. -/
theorem box3_set {w : World} {q : Nat} {T : TypeId} {x y z : Value} (h : w.heap[q]? = some (.cells #[x, y, z] T (0, 0))) (u v t : Value) : (((w.setCell ⟨q, 0, none⟩ u).setCell ⟨q, 1, none⟩ v).setCell ⟨q, 2, none⟩ t).heap[q]? = some (.cells #[u, v, t] T (0, 0)) :=
  heap_set (i := 2) (heap_set (i := 1) (heap_set (i := 0) h u) v) t
set_option maxRecDepth 100000 in
set_option maxHeartbeats 1000000 in
theorem impl_rewired (k a b : Int) (A : Option Addr) (nv cv : Nat) (ts : List Int) (m : Nat) (ok : gateOk k a b m) (w : World) (ht : Ints w A ts) (lt : ts.length = nv) (hm : m ≤ nv) :
    Calls Try.prog 103 #[.agg #[.int .i64 k, .int .i64 a, .int .i64 b], .slice A nv cv] w fun e w' => e = .returned (.agg #[.int .i64 k, .int .i64 (rewA ts k a), .int .i64 (rewB ts k b)]) ∧ Below w.heap.size w w' := by
  have k0 := Bx2.start w 45 #[.int .i64 k, .int .i64 a, .int .i64 b] 45 #[.int .i64 0, .int .i64 0, .int .i64 0]
  have iv := ((ht.al (.cells #[.int .i64 k, .int .i64 a, .int .i64 b] 45)).al (.cells #[.int .i64 0, .int .i64 0, .int .i64 0] 45))
  have EA : Hid (rewA ts k a = if one1 k then ts.getD a.toNat 0 else a) := Lib.hid rfl
  have EB : Hid (rewB ts k b = if two k then ts.getD b.toNat 0 else b) := Lib.hid rfl
  generalize rewA ts k a = ra at *
  generalize rewB ts k b = rb at *
  have hbt := ht.bound
  clear ht
  by_cases h2 : two k
  · have ok2 := ok
    have e1 : one1 k := by unfold two at h2; unfold one1; omega
    have ra1 : ts.getD a.toNat 0 = ra := (EA.out.trans (if_pos e1)).symm
    have rb1 : ts.getD b.toNat 0 = rb := (EB.out.trans (if_pos h2)).symm
    have ab : (0 ≤ a ∧ a < (nv : Int)) ∧ 0 ≤ b ∧ b < (nv : Int) := by unfold gateOk at ok; unfold two at h2; omega
    obtain ⟨⟨a0, a1⟩, b0, b1⟩ := ab
    obtain ⟨g, o, rfl, -, q⟩ := iv.at_ (j := a.toNat) (by omega)
    obtain ⟨_, _, e2, -, p⟩ := iv.at_ (j := b.toNat) (by omega)
    injection e2 with e2; injection e2 with e21 e22; subst e21 e22
    rw [ra1] at q
    rw [rb1] at p
    have hgl : g < w.heap.size := by
      obtain ⟨b', o', e', hl', _⟩ := hbt.at_ (j := a.toNat) (by omega)
      injection e' with e'; injection e' with e1' e2'
      omega
    obtain ⟨a, rfl⟩ : ∃ x : Nat, a = x := Int.eq_ofNat_of_zero_le a0
    obtain ⟨b, rfl⟩ : ∃ x : Nat, b = x := Int.eq_ofNat_of_zero_le b0
    rw [Int.toNat_natCast] at q p
    clear EA EB ra1 rb1 iv ok ok2 e1 hbt
    rcases h2 with rfl | rfl
    · go_enter Try.func103, Try.ntmps103
      go_upto_region 4 with (fail)
      generalize hw0 : (w.alloc _).alloc _ = w0 at *
      clear hw0
      obtain ⟨c0, f0⟩ := blk (i := 0) k0.arg rfl
      obtain ⟨c1, f1⟩ := blk (i := 1) k0.arg rfl
      obtain ⟨c2, f2⟩ := blk (i := 2) k0.arg rfl
      have K := Lib.hid k0
      have ng : g ≠ w.heap.size := by omega
      have p1 := far_one (i := 1) p ng (.int .i64 ra)
      have q2 := far_one (i := 2) q ng (.int .i64 rb)
      clear k0 lt hm hgl
      go_region
      have r2 : ((w0.setCell ⟨w.heap.size, 1, none⟩ (.int .i64 ra)).setCell ⟨w.heap.size, 2, none⟩ (.int .i64 rb)).heap[w.heap.size]? = some (.cells #[.int .i64 3, .int .i64 ra, .int .i64 rb] 45 (0, 0)) := heap_set (i := 2) (heap_set (i := 1) K.out.arg (.int .i64 ra)) (.int .i64 rb)
      have r3 : ((w0.setCell ⟨w.heap.size, 1, none⟩ (.int .i64 ra)).setCell ⟨w.heap.size, 2, none⟩ (.int .i64 rb)).heap[w.heap.size + 1]? = some (.cells #[.int .i64 0, .int .i64 0, .int .i64 0] 45 (0, 0)) := (Below.heap_setCell _ _ _ _ (by simp)).trans ((Below.heap_setCell _ _ _ _ (by simp)).trans K.out.res)
      have L1 := Lib.hid ((K.out.low.setCell (p := ⟨w.heap.size, 1, none⟩) (Nat.le_refl _) (.int .i64 ra)).setCell (p := ⟨w.heap.size, 2, none⟩) (Nat.le_refl _) (.int .i64 rb))
      clear K c0 c1 c2 f0 f1 f2 q p p1 q2
      generalize (w0.setCell ⟨w.heap.size, 1, none⟩ (.int .i64 ra)).setCell ⟨w.heap.size, 2, none⟩ (.int .i64 rb) = w2 at *
      obtain ⟨d0, -⟩ := blk (i := 0) r2 rfl
      obtain ⟨d1, -⟩ := blk (i := 1) r2 rfl
      obtain ⟨d2, -⟩ := blk (i := 2) r2 rfl
      obtain ⟨e0, g0⟩ := blk (i := 0) r3 rfl
      obtain ⟨e1, g1⟩ := blk (i := 1) r3 rfl
      obtain ⟨e2, g2⟩ := blk (i := 2) r3 rfl
      have R := Lib.hid (box3_set (w := w2.drew) r3 (.int .i64 3) (.int .i64 ra) (.int .i64 rb))
      have L := Lib.hid (((L1.out.drew.setCell (p := ⟨w.heap.size + 1, 0, none⟩) (by simp) (.int .i64 3)).setCell (p := ⟨w.heap.size + 1, 1, none⟩) (by simp) (.int .i64 ra)).setCell (p := ⟨w.heap.size + 1, 2, none⟩) (by simp) (.int .i64 rb))
      clear r2 r3 L1
      go_wp2_with fail
      refine bodyPost_ret (results_cell_row (P := Try.prog) rfl _ _ (w.heap.size + 1) 45 _ (0, 0) _ rfl R.out Try.underlying45 rfl (by kernel_rfl)) rfl ?_
      exact ⟨rfl, L.out⟩
    · go_enter Try.func103, Try.ntmps103
      go_upto_region 4 with (fail)
      generalize hw0 : (w.alloc _).alloc _ = w0 at *
      clear hw0
      obtain ⟨c0, f0⟩ := blk (i := 0) k0.arg rfl
      obtain ⟨c1, f1⟩ := blk (i := 1) k0.arg rfl
      obtain ⟨c2, f2⟩ := blk (i := 2) k0.arg rfl
      have K := Lib.hid k0
      have ng : g ≠ w.heap.size := by omega
      have p1 := far_one (i := 1) p ng (.int .i64 ra)
      have q2 := far_one (i := 2) q ng (.int .i64 rb)
      clear k0 lt hm hgl
      go_region
      have r2 : ((w0.setCell ⟨w.heap.size, 1, none⟩ (.int .i64 ra)).setCell ⟨w.heap.size, 2, none⟩ (.int .i64 rb)).heap[w.heap.size]? = some (.cells #[.int .i64 4, .int .i64 ra, .int .i64 rb] 45 (0, 0)) := heap_set (i := 2) (heap_set (i := 1) K.out.arg (.int .i64 ra)) (.int .i64 rb)
      have r3 : ((w0.setCell ⟨w.heap.size, 1, none⟩ (.int .i64 ra)).setCell ⟨w.heap.size, 2, none⟩ (.int .i64 rb)).heap[w.heap.size + 1]? = some (.cells #[.int .i64 0, .int .i64 0, .int .i64 0] 45 (0, 0)) := (Below.heap_setCell _ _ _ _ (by simp)).trans ((Below.heap_setCell _ _ _ _ (by simp)).trans K.out.res)
      have L1 := Lib.hid ((K.out.low.setCell (p := ⟨w.heap.size, 1, none⟩) (Nat.le_refl _) (.int .i64 ra)).setCell (p := ⟨w.heap.size, 2, none⟩) (Nat.le_refl _) (.int .i64 rb))
      clear K c0 c1 c2 f0 f1 f2 q p p1 q2
      generalize (w0.setCell ⟨w.heap.size, 1, none⟩ (.int .i64 ra)).setCell ⟨w.heap.size, 2, none⟩ (.int .i64 rb) = w2 at *
      obtain ⟨d0, -⟩ := blk (i := 0) r2 rfl
      obtain ⟨d1, -⟩ := blk (i := 1) r2 rfl
      obtain ⟨d2, -⟩ := blk (i := 2) r2 rfl
      obtain ⟨e0, g0⟩ := blk (i := 0) r3 rfl
      obtain ⟨e1, g1⟩ := blk (i := 1) r3 rfl
      obtain ⟨e2, g2⟩ := blk (i := 2) r3 rfl
      have R := Lib.hid (box3_set (w := w2.drew) r3 (.int .i64 4) (.int .i64 ra) (.int .i64 rb))
      have L := Lib.hid (((L1.out.drew.setCell (p := ⟨w.heap.size + 1, 0, none⟩) (by simp) (.int .i64 4)).setCell (p := ⟨w.heap.size + 1, 1, none⟩) (by simp) (.int .i64 ra)).setCell (p := ⟨w.heap.size + 1, 2, none⟩) (by simp) (.int .i64 rb))
      clear r2 r3 L1
      go_wp2_with fail
      refine bodyPost_ret (results_cell_row (P := Try.prog) rfl _ _ (w.heap.size + 1) 45 _ (0, 0) _ rfl R.out Try.underlying45 rfl (by kernel_rfl)) rfl ?_
      exact ⟨rfl, L.out⟩
  · have e2 : rb = b := EB.out.trans (if_neg h2)
    subst e2
    by_cases h5 : k = 5
    · subst h5
      have ra1 : ts.getD a.toNat 0 = ra := (EA.out.trans (if_pos (by unfold one1; omega))).symm
      have ab : 0 ≤ a ∧ a < (nv : Int) := by unfold gateOk at ok; omega
      obtain ⟨a0, a1⟩ := ab
      obtain ⟨g, o, rfl, -, q⟩ := iv.at_ (j := a.toNat) (by omega)
      rw [ra1] at q
      obtain ⟨a, rfl⟩ : ∃ x : Nat, a = x := Int.eq_ofNat_of_zero_le a0
      rw [Int.toNat_natCast] at q
      clear EA EB ra1 iv ok h2 hbt lt hm
      go_enter Try.func103, Try.ntmps103
      go_upto_region 6 with (fail)
      generalize hw0 : (w.alloc _).alloc _ = w0 at *
      clear hw0
      obtain ⟨c0, f0⟩ := blk (i := 0) k0.arg rfl
      obtain ⟨c1, f1⟩ := blk (i := 1) k0.arg rfl
      obtain ⟨c2, f2⟩ := blk (i := 2) k0.arg rfl
      have r2 : (w0.setCell ⟨w.heap.size, 1, none⟩ (.int .i64 ra)).heap[w.heap.size]? = some (.cells #[.int .i64 5, .int .i64 ra, .int .i64 rb] 45 (0, 0)) := heap_set (i := 1) k0.arg (.int .i64 ra)
      have r3 : (w0.setCell ⟨w.heap.size, 1, none⟩ (.int .i64 ra)).heap[w.heap.size + 1]? = some (.cells #[.int .i64 0, .int .i64 0, .int .i64 0] 45 (0, 0)) := (Below.heap_setCell _ _ _ _ (by simp)).trans k0.res
      have L1 := Lib.hid (k0.low.setCell (p := ⟨w.heap.size, 1, none⟩) (Nat.le_refl _) (.int .i64 ra))
      obtain ⟨d0, -⟩ := blk (i := 0) r2 rfl
      obtain ⟨d1, -⟩ := blk (i := 1) r2 rfl
      obtain ⟨d2, -⟩ := blk (i := 2) r2 rfl
      obtain ⟨e0, g0⟩ := blk (i := 0) r3 rfl
      obtain ⟨e1, g1⟩ := blk (i := 1) r3 rfl
      obtain ⟨e2, g2⟩ := blk (i := 2) r3 rfl
      have R := Lib.hid (box3_set r3 (.int .i64 5) (.int .i64 ra) (.int .i64 rb))
      have L := Lib.hid (((L1.out.setCell (p := ⟨w.heap.size + 1, 0, none⟩) (by simp) (.int .i64 5)).setCell (p := ⟨w.heap.size + 1, 1, none⟩) (by simp) (.int .i64 ra)).setCell (p := ⟨w.heap.size + 1, 2, none⟩) (by simp) (.int .i64 rb))
      clear k0 r2 r3 L1
      go_wp2_with fail
      refine bodyPost_ret (results_cell_row (P := Try.prog) rfl _ _ (w.heap.size + 1) 45 _ (0, 0) _ rfl R.out Try.underlying45 rfl (by kernel_rfl)) rfl ?_
      exact ⟨rfl, L.out⟩
    · have e1 : ra = a := EA.out.trans (if_neg (by unfold one1; unfold two at h2; omega))
      subst e1
      have e3 : (k == 3) = false := beq_eq_false_iff_ne.2 (by unfold two at h2; omega)
      have e4 : (k == 4) = false := beq_eq_false_iff_ne.2 (by unfold two at h2; omega)
      have e5 : (k == 5) = false := beq_eq_false_iff_ne.2 h5
      clear EA EB iv ok h2 hbt h5 lt hm
      go_enter Try.func103, Try.ntmps103
      go_upto_region 7 with (fail)
      generalize hw0 : (w.alloc _).alloc _ = w0 at *
      clear hw0
      obtain ⟨c0, f0⟩ := blk (i := 0) k0.arg rfl
      obtain ⟨c1, f1⟩ := blk (i := 1) k0.arg rfl
      obtain ⟨c2, f2⟩ := blk (i := 2) k0.arg rfl
      obtain ⟨e0', g0⟩ := blk (i := 0) k0.res rfl
      obtain ⟨e1', g1⟩ := blk (i := 1) k0.res rfl
      obtain ⟨e2', g2⟩ := blk (i := 2) k0.res rfl
      have R := Lib.hid (box3_set k0.res (.int .i64 k) (.int .i64 ra) (.int .i64 rb))
      have L := Lib.hid (((k0.low.setCell (p := ⟨w.heap.size + 1, 0, none⟩) (by simp) (.int .i64 k)).setCell (p := ⟨w.heap.size + 1, 1, none⟩) (by simp) (.int .i64 ra)).setCell (p := ⟨w.heap.size + 1, 2, none⟩) (by simp) (.int .i64 rb))
      clear k0
      go_wp2_with fail
      refine bodyPost_ret (results_cell_row (P := Try.prog) rfl _ _ (w.heap.size + 1) 45 _ (0, 0) _ rfl R.out Try.underlying45 rfl (by kernel_rfl)) rfl ?_
      exact ⟨rfl, L.out⟩
end Go.Proofs.Ytegdlegndgdgiaa
