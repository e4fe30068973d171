/- A map of uses in memory: what it has for each wire, how it is read and turned. No condition. -/
import Derived.Test.YtkcknejkldhmaaaProg
import Derived.Test.YtkcknejkldhmaaaUsM
import Derived.Maps.OwnSet
import Derived.Maps.OwnIn
namespace Go.Proofs.Ytkcknejkldhmaaa
open Go Go.RowKit Go.Maps
/-- What a map of numbers has for the first n wires, and that it has nothing else. -/
structure Uses (n : Nat) (D : DataW Unit) (f : Nat → Bool) (c : Nat → Int) : Prop where
  has : ∀ i, i < n → Maps.has D (.int .i64 (i : Int)) = f i
  at_ : ∀ i, i < n → D.atKey (.int .i64 (i : Int)) (.lit (.int .i64 0)) = .lit (.int .i64 (c i))
  size : Maps.size D = cntT f n
theorem Uses.empty (n : Nat) : Uses n (.map []) (fun _ => false) (fun _ => 0) := ⟨fun _ _ => rfl, fun _ _ => rfl, (cntT_none n).symm⟩
theorem wire_ne {i j : Nat} (h : i ≠ j) : Lit.int .i64 (i : Int) ≠ Lit.int .i64 (j : Int) := fun e => by
  injection e with _ e
  omega
theorem Uses.congr {n : Nat} {D : DataW Unit} {f f' : Nat → Bool} {c c' : Nat → Int} (h : Uses n D f c) (e : ∀ i, i < n → f i = f' i ∧ c i = c' i) : Uses n D f' c' :=
  ⟨fun i hi => (h.has i hi).trans (e i hi).1, fun i hi => by rw [h.at_ i hi, (e i hi).2], h.size.trans (cntT_congr fun i hi => (e i hi).1)⟩
theorem Uses.put {n o : Nat} {D : DataW Unit} {f : Nat → Bool} {c : Nat → Int} (h : Uses n D f c) (hd : Tidy D) (ho : o < n) (x : Int) :
    Uses n (D.put (.int .i64 (o : Int)) (.lit (.int .i64 x))) (fun i => if i = o then true else f i) (fun i => if i = o then x else c i) := by
  have hk : WideAt.IsKeyLit (.int .i64 (o : Int)) := trivial
  refine ⟨fun i hi => ?_, fun i hi => ?_, ?_⟩
  · by_cases e : i = o
    · subst e
      rw [if_pos rfl]
      exact has_put_same hd.isMap hk _
    · rw [if_neg e, has_put_other (wire_ne e)]
      exact h.has i hi
  · by_cases e : i = o
    · subst e
      rw [if_pos rfl]
      exact atKey_put_same hd.isMap hk _ _
    · rw [if_neg e, atKey_put_other (wire_ne e)]
      exact h.at_ i hi
  · have e1 := size_put (k := .int .i64 (o : Int)) hd (.lit (.int .i64 x))
    have e2 := cntT_set f o true n
    rw [e1, h.has o ho, h.size]
    simp only [ho, true_and, if_true] at e2
    split at e2 <;> rename_i hf
    · rw [if_pos hf]; omega
    · rw [if_neg hf]; omega
theorem Uses.del {n o : Nat} {D : DataW Unit} {f : Nat → Bool} {c : Nat → Int} (h : Uses n D f c) (hd : Tidy D) (ho : o < n) :
    Uses n (D.del (.int .i64 (o : Int))) (fun i => if i = o then false else f i) (fun i => if i = o then 0 else c i) := by
  refine ⟨fun i hi => ?_, fun i hi => ?_, ?_⟩
  · by_cases e : i = o
    · subst e
      rw [if_pos rfl]
      exact has_del_same
    · rw [if_neg e, has_del_other (wire_ne e)]
      exact h.has i hi
  · by_cases e : i = o
    · subst e
      rw [if_pos rfl]
      exact atKey_del_same _
    · rw [if_neg e, atKey_del_other (wire_ne e)]
      exact h.at_ i hi
  · have e1 := size_del (k := .int .i64 (o : Int)) hd
    have e2 := cntT_set f o false n
    rw [h.has o ho, h.size] at e1
    simp only [ho, true_and, Bool.false_eq_true, if_false, Nat.add_zero] at e2
    split at e2 <;> rename_i hf
    · rw [if_pos hf] at e1; omega
    · rw [if_neg hf] at e1; omega
theorem keyI : Keyed Try.prog 3 := int_keyed Try.underlying3
theorem wire_wf {x : Int} (h : 0 ≤ x ∧ x ≤ 1000000000000) : (Lit.int .i64 x).wf = true := WalkArith.wf_i64 (by omega)
theorem wire_key {x : Int} (h : 0 ≤ x ∧ x ≤ 1000000000000) : keyOf Try.prog 3 (.int .i64 x) = some (.int .i64 x) := keyOf_int_mk Try.underlying3 (wire_wf h)
theorem zeroInt (w : World) : (zeroValue 3).run Try.prog w = .ok (.int .i64 0) w := by kernel_rfl
/-- The map of uses in block mb: f says which of the first n wires it has, c their numbers. -/
def Um (mb n : Nat) (w : World) (f : Nat → Bool) (c : Nat → Int) : Prop := ∃ D : DataW Unit, w.ownsMap Try.prog 3 (plainElem Try.prog 3) mb n D ∧ Uses n D f c
section
variable {mb n o B : Nat} {w w' : World} {f f' : Nat → Bool} {c c' : Nat → Int}
theorem Um.made (w : World) (n : Nat) : Um w.heap.size n (w.alloc (.map #[] 0)) (fun _ => false) (fun _ => 0) :=
  ⟨.map [], (World.ownsMap_made w _ _ _).mono (Nat.zero_le n), Uses.empty n⟩
theorem Um.lt (h : Um mb n w f c) : mb < w.heap.size := h.choose_spec.1.lt
theorem Um.kept {row : Option Nat} (h : Um mb n w f c) (hg : w.grownBy w' row) (hne : some mb ≠ row) : Um mb n w' f c := ⟨h.choose, h.choose_spec.1.kept hg hne, h.choose_spec.2⟩
theorem Um.below (h : Um mb n w f c) (hb : Below w.heap.size w w') : Um mb n w' f c := h.kept (row := none) ⟨hb.os, hb.tape, hb.output, hb.size, fun k hk _ => hb.block k hk⟩ (by simp)
theorem Um.alloc (h : Um mb n w f c) (o : Obj) : Um mb n (w.alloc o) f c := h.below (below_alloc w o)
theorem Um.drew (h : Um mb n w f c) : Um mb n w.drew f c := h
theorem Um.drewN (h : Um mb n w f c) (i : Nat) : Um mb n (w.drewN i) f c := h
theorem Um.congr (h : Um mb n w f c) (e : ∀ i, i < n → f i = f' i ∧ c i = c' i) : Um mb n w f' c' := ⟨h.choose, h.choose_spec.1, h.choose_spec.2.congr e⟩
theorem Um.setCell (h : Um mb n w f c) {a : Addr} (ha : mb ≠ a.block) (u : Value) : Um mb n (w.setCell a u) f c := ⟨h.choose, h.choose_spec.1.setCell ha u, h.choose_spec.2⟩
/-- The map is no block of cells. -/
theorem Um.ne (h : Um mb n w f c) {g : Nat} {xs : Array Value} {T : TypeId} {z : Nat × Nat} (hh : w.heap[g]? = some (.cells xs T z)) : g ≠ mb := fun e => by
  obtain ⟨D, ⟨es, clock, hb, _⟩, _⟩ := h
  subst e
  rw [hh] at hb
  cases hb
theorem Um.read (h : Um mb n w f c) (ho : o < n) (hn : n ≤ 1000000) : (Instr.lookup 81 (.map (some mb)) (.int .i64 (o : Int)) false).run Try.prog w = .ok (.int .i64 (c o)) w := by
  obtain ⟨D, hw, hu⟩ := h
  obtain ⟨x, hr, ha, _⟩ := hw.lookup_int keyI Try.underlying81 Try.underlying3 (zeroInt w) (wire_key (x := (o : Int)) (by omega))
  rw [hu.at_ o ho] at ha
  simp only [DataW.lit.injEq, Lit.int.injEq, true_and] at ha
  rw [hr, ← ha]
theorem Um.look (h : Um mb n w f c) (ho : o < n) (hn : n ≤ 1000000) : (Instr.lookup 81 (.map (some mb)) (.int .i64 (o : Int)) true).run Try.prog w = .ok (.tuple #[.int .i64 (c o), .bool (f o)]) w := by
  obtain ⟨D, hw, hu⟩ := h
  obtain ⟨v, ps, hr, hv⟩ := hw.look_ok keyI Try.underlying81 (zeroInt w) (plainElem_int Try.underlying3 (by decide)) (wire_key (x := (o : Int)) (by omega))
  obtain ⟨x, rfl, hx, _⟩ := plainElem_int_inv Try.underlying3 hv
  rw [hu.at_ o ho] at hx
  simp only [Prod.mk.injEq, DataW.lit.injEq, Lit.int.injEq, true_and] at hx
  rw [hr, hu.has o ho, ← hx.1]
theorem Um.shrink {N : Nat} {D : DataW Unit} (h : w.ownsMap Try.prog 3 (plainElem Try.prog 3) mb N D) (hu : Uses n D f c) : w.ownsMap Try.prog 3 (plainElem Try.prog 3) mb n D := by
  have hs := hu.size
  have hl := cntT_le f n
  obtain ⟨es, clock, hb, F, h1, rfl⟩ := h
  refine ⟨es, clock, hb, F, ?_, rfl⟩
  have e1 : Maps.size (DataW.map ((es.toList.map (WideElems.rg Try.prog 3 (plainElem (H := Unit) Try.prog 3))).foldr DataW.insert [])) = es.size := by simp [Maps.size, length_sorted]
  omega
/-- A number is stored. -/
theorem Um.write (h : Um mb n w f c) (ho : o < n) (hn : n ≤ 1000000) (x : Int) (hx : (Lit.int .i64 x).wf = true) :
    ∃ w', (Instr.mapUpdate 81 (.map (some mb)) (.int .i64 (o : Int)) (.int .i64 x)).run Try.prog w = .ok () w' ∧ Um mb n w' (fun i => if i = o then true else f i) (fun i => if i = o then x else c i) ∧ w.grownBy w' (some mb) ∧ w'.heap.size = w.heap.size := by
  obtain ⟨D, hw, hu⟩ := h
  obtain ⟨w', hr, ho', ht⟩ := hw.store keyI Try.underlying81 (by unfold maxLen; omega) (wire_key (x := (o : Int)) (by omega)) (plainElem_int Try.underlying3 hx)
  have hu' := hu.put (hw.tidy keyI) ho x
  refine ⟨w', hr, ⟨_, Um.shrink ho' hu', hu'⟩, ht.grown, ?_⟩
  obtain ⟨es, clock, es', clock', _, rfl⟩ := ht
  simp [ChangeMaps.setBlock]
theorem Um.drop (h : Um mb n w f c) (ho : o < n) (hn : n ≤ 1000000) (ty : TypeId) :
    ∃ w', (Builtin.delete_ #[81, 3] ty #[.map (some mb), .int .i64 (o : Int)]).run Try.prog w = .ok (.tuple #[]) w' ∧ Um mb n w' (fun i => if i = o then false else f i) (fun i => if i = o then 0 else c i) ∧ w.grownBy w' (some mb) ∧ w'.heap.size = w.heap.size := by
  obtain ⟨D, hw, hu⟩ := h
  obtain ⟨w', hr, ho', ht⟩ := hw.drop keyI Try.underlying81 (wire_key (x := (o : Int)) (by omega)) ty
  have hu' := hu.del (hw.tidy keyI) ho
  refine ⟨w', hr, ⟨_, Um.shrink ho' hu', hu'⟩, ht.grown, ?_⟩
  obtain ⟨es, clock, es', clock', _, rfl⟩ := ht
  simp [ChangeMaps.setBlock]
theorem Um.len (h : Um mb n w f c) (ty : TypeId) : (Builtin.len_ #[81] ty #[.map (some mb)]).run Try.prog w = .ok (.int .i64 (cntT f n : Nat)) w := by
  obtain ⟨D, hw, hu⟩ := h
  rw [hw.len Try.underlying81 ty, hu.size]
end
/-- 'make(map[int]int, n)'. -/
theorem run_make_hint (n : Int) (w : World) : (Instr.makeMap 81 (some (.int .i64 n))).run Try.prog w = .ok (.map (some w.heap.size)) (w.alloc (.map #[] 0)) := by
  simp [Instr.makeMap, run_underlying Try.underlying81, asInt, asIntOf, Result.andThen]
/-- A store into the map, for the walk. -/
theorem wpList_um_put (w : World) {ops : Array Oper} {rest : List Oper} {o : Oper} {a : Act} {Q : Exit → Act → World → Prop}
    (hg : o.guard = none) (m x v : Operand) (hop : o.op = Op.mapUpdate 81 m x v) {mb n : Nat} {f : Nat → Bool} {c : Nat → Int} (h : Um mb n w f c) (i : Nat) (hi : i < n) (hn : n ≤ 1000000) (y : Int) (hy : (Lit.int .i64 y).wf = true)
    (hm : a.eval m = .map (some mb)) (hx : a.eval x = .int .i64 (i : Int)) (hv : a.eval v = .int .i64 y)
    (hK : ∀ w', Um mb n w' (fun j => if j = i then true else f j) (fun j => if j = i then y else c j) → w.grownBy w' (some mb) → w'.heap.size = w.heap.size → wpList Try.prog ops Q rest (a.put o.dst undef) w') : wpList Try.prog ops Q (o :: rest) a w := by
  refine wpList_plain hg fun K' hK' => ?_
  obtain ⟨w', hrun, r1, r2, r3⟩ := h.write hi hn y hy
  unfold Oper.wp
  simp [execOp, hop, hm, hx, hv, hrun, Result.andThen]
  exact hK' _ _ (hK w' r1 r2 r3)
/-- The same under a fence, and in a round. -/
theorem wpListIn_um_put {F : Fence} {nF : Nat} (w : World) {ops : Array Oper} {rest : List Oper} {o : Oper} {a : Act} {Q : Exit → Act → World → Prop}
    (hg : o.guard = none) (m x v : Operand) (hop : o.op = Op.mapUpdate 81 m x v) {mb n : Nat} {f : Nat → Bool} {c : Nat → Int} (h : Um mb n w f c) (i : Nat) (hi : i < n) (hn : n ≤ 1000000) (y : Int) (hy : (Lit.int .i64 y).wf = true)
    (hm : a.eval m = .map (some mb)) (hx : a.eval x = .int .i64 (i : Int)) (hv : a.eval v = .int .i64 y)
    (hK : ∀ w', Um mb n w' (fun j => if j = i then true else f j) (fun j => if j = i then y else c j) → w.grownBy w' (some mb) → w'.heap.size = w.heap.size → wpListIn F nF Try.prog ops Q rest (a.put o.dst undef) w') : wpListIn F nF Try.prog ops Q (o :: rest) a w := by
  refine wpListIn_plain hg fun K' hK' => ?_
  obtain ⟨w', hrun, r1, r2, r3⟩ := h.write hi hn y hy
  unfold Oper.wpIn
  refine ⟨by simp [Oper.about, hop], ?_⟩
  rw [Oper.semAt_plain F _ _ (by rw [hop]; intro c hc'; cases hc')]
  simp [execOp, hop, hm, hx, hv, hrun, Result.andThen]
  exact hK' _ _ (hK w' r1 r2 r3)
theorem wpListIn_um_del {F : Fence} {nF : Nat} (w : World) {ops : Array Oper} {rest : List Oper} {o : Oper} {a : Act} {Q : Exit → Act → World → Prop}
    (hg : o.guard = none) (m x : Operand) (hop : o.op = Op.call { callee := Callee.builtin Builtin.delete, args := #[m, x], argTypes := #[81, 3] }) {mb n : Nat} {f : Nat → Bool} {c : Nat → Int} (h : Um mb n w f c) (i : Nat) (hi : i < n) (hn : n ≤ 1000000)
    (hm : a.eval m = .map (some mb)) (hx : a.eval x = .int .i64 (i : Int))
    (hK : ∀ w', Um mb n w' (fun j => if j = i then false else f j) (fun j => if j = i then 0 else c j) → w.grownBy w' (some mb) → w'.heap.size = w.heap.size → wpListIn F nF Try.prog ops Q rest (a.put o.dst (.tuple #[])) w') : wpListIn F nF Try.prog ops Q (o :: rest) a w := by
  refine wpListIn_plain hg fun K' hK' => ?_
  obtain ⟨w', hrun, r1, r2, r3⟩ := h.drop hi hn o.type
  unfold Oper.wpIn
  refine ⟨by simp [Oper.about, hop, resolve, Target.leads, Sem.run_pure], ?_⟩
  rw [Oper.semAt_plain F _ _ (by rw [hop]; intro c hc'; cases hc')]
  simp [execOp, hop, resolve, invoke, builtin, hm, hx, hrun, Result.andThen]
  exact hK' _ _ (hK w' r1 r2 r3)
end Go.Proofs.Ytkcknejkldhmaaa
