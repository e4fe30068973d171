/- The program makes its table of forms. -/
import Derived.Test.YtjclhlicginekaaGreatDoorProg
import Derived.Test.YtjclhlicginekaaGreatDoorSrcF
import Derived.Maps.OwnSet
namespace Go.Proofs.YtjclhlicginekaaGreatDoor
open Go Go.RowKit Go.Maps
/-- 'm[k] = v' of a map's literal: nothing but the map's entries turns. -/
theorem wpList_insert_in {H : Type} {P : Program} (w : World) {ops : Array Oper} {rest : List Oper} {o : Oper} {a : Act} {Q : Exit → Act → World → Prop}
    (hg : o.guard = none) (m x v : Operand) (t : TypeId) (hop : o.op = Op.insert t m x v)
    (k e : TypeId) (K : Keyed P k) (ht : P.underlying t = some (.map k e)) (R : Value → Option (DataW H × List MemPlace)) (b n : Nat) (D : DataW H)
    (hm : a.eval m = .map (some b)) (hown : w.ownsMap P k R b n D) (hn : n < maxLen) (key val : Value) (kl : Lit) (hx : a.eval x = key) (hv : a.eval v = val) (hkey : keyOf P k key = some kl)
    (d : DataW H) (ps : List MemPlace) (hval : R val = some (d, ps))
    (hK : ∀ w', w'.ownsMap P k R b (n + 1) (D.put kl d) → w.mapTurned w' b → wpList P ops Q rest (a.put o.dst undef) w') :
    wpList P ops Q (o :: rest) a w := by
  refine wpList_plain hg fun K' hK' => ?_
  obtain ⟨w', hrun, r1, r2⟩ := hown.store K ht hn hkey hval
  unfold Oper.wp
  simp [execOp, hop, hm, hx, hv, hrun, Result.andThen]
  exact hK' _ _ (hK w' r1 r2)
/-- The blocks of the arguments, as they are made. -/
def argC (i : Nat) : Array Value :=
  match i with
  | 0 => #[.int .i64 0, .int .i64 1, .int .i64 2]
  | 2 => #[.int .i64 0, .int .i64 5]
  | 3 => #[.int .i64 0, .int .i64 4, .int .i64 5]
  | 4 => #[.int .i64 0, .int .i64 1, .int .i64 2, .int .i64 3]
  | 5 => #[.int .i64 1]
  | _ => #[.int .i64 5]
structure Making (B n j : Nat) (w0 w : World) : Prop where
  blocks : ∀ i, i < n → i ≠ 1 → w.heap[B + i]? = some (.cells (argC i) 74 (0, 0))
  map : w.ownsMap Tryz.prog 9 (formR B) (B + 1) j (tblD j)
  size : w.heap.size = B + n
  low : Below B w0 w
theorem Making.lay {B n j : Nat} {w0 w : World} (h : Making B n j w0 w) (hn : 2 ≤ n) : Making B (n + 1) j w0 (w.alloc (.cells (argC n) 74)) where
  blocks i hi h1 := by
    by_cases he : i = n
    · subst he
      rw [← h.size]
      exact heap_alloc_new w _
    · rw [heap_alloc_old w _ (by rw [h.size]; omega)]
      exact h.blocks i (by omega) h1
  map := h.map.alloc _
  size := by rw [World.size_alloc, h.size]; omega
  low := h.low.alloc (by rw [h.size]; omega) _
theorem turned_size {w w' : World} {b : Nat} (h : w.mapTurned w' b) : w'.heap.size = w.heap.size := by
  obtain ⟨es, clock, es', clock', hb, rfl⟩ := h
  simp [ChangeMaps.setBlock]
theorem Making.put {B n j : Nat} {w0 w w' : World} (h : Making B n j w0 w) (hm : w'.ownsMap Tryz.prog 9 (formR B) (B + 1) (j + 1) (tblD (j + 1))) (ht : w.mapTurned w' (B + 1)) (hn : 2 ≤ n) : Making B n (j + 1) w0 w' where
  blocks i hi h1 := (ht.grown.block (B + i) (by rw [h.size]; omega) (by simp; omega)).trans (h.blocks i hi h1)
  map := hm
  size := (turned_size ht).trans h.size
  low := h.low.grown ht.grown (by rw [h.size]; omega) (fun k hk => by cases hk; omega)
theorem Making.done {B : Nat} {w0 w : World} (h : Making B 7 13 w0 w) : Forms B w where
  map := h.map
  args op ho := by
    have hb : ∀ i zs, i < 7 → i ≠ 1 → argC i = (intVals zs).toArray → IntsB (B + 7) w (some ⟨B + i, 0, none⟩) zs := fun i zs hi h1 e h0 => by
      refine ⟨B + i, 0, rfl, by omega, fun j hj => ?_⟩
      have := h.blocks i hi h1
      rw [World.cell?]
      simp only [this, e, Nat.zero_add]
      simp [intVals, List.getElem?_eq_getElem hj, List.getD_eq_getElem?_getD]
    have h2 : op = 0 ∨ op = 1 ∨ op = 2 ∨ op = 3 ∨ op = 4 ∨ op = 5 ∨ op = 6 ∨ op = 7 ∨ op = 8 ∨ op = 9 ∨ op = 10 ∨ op = 11 ∨ op = 12 ∨ op = 13 := by omega
    have h3 := hb 0 [0, 1, 2] (by omega) (by omega) rfl
    rcases h2 with rfl | rfl | rfl | rfl | rfl | rfl | rfl | rfl | rfl | rfl | rfl | rfl | rfl | rfl
    · exact fun h0 => absurd h0 (by decide)
    · exact hb 2 [0, 5] (by omega) (by omega) rfl
    · exact hb 3 [0, 4, 5] (by omega) (by omega) rfl
    · exact h3
    · exact h3
    · exact h3
    · exact h3
    · exact h3
    · exact h3
    · exact h3
    · exact hb 4 [0, 1, 2, 3] (by omega) (by omega) rfl
    · exact hb 5 [1] (by omega) (by omega) rfl
    · exact hb 6 [5] (by omega) (by omega) rfl
    · exact fun h0 => absurd h0 (by decide)
  top := by rw [h.size]; omega
theorem keyL (l : List UInt8) (hl : l.length ≤ 100) : keyOf Tryz.prog 9 (.string ⟨l.toArray⟩) = some (.string l) := by
  have := Go.WideMaps.keyOf_string_mk (P := Tryz.prog) Tryz.underlying9 (s := ⟨l.toArray⟩) (by show l.toArray.size ≤ _; unfold maxLen; simp; omega)
  simpa using this
set_option maxRecDepth 100000 in
set_option maxHeartbeats 1000000 in
theorem sourceForms_any (w : World) :
    Calls Tryz.prog 21 #[] w fun e w' => e = .returned (.map (some (w.heap.size + 1))) ∧ Forms w.heap.size w' ∧ Below w.heap.size w w' := by
  have hmm := @run_makeMap Tryz.prog
  have hv := fun op ho => formR_mk w.heap.size op ho
  obtain ⟨B, hB⟩ : ∃ B, w.heap.size = B := ⟨_, rfl⟩
  have g0 : Making B 2 0 w ((w.alloc (.cells (argC 0) 74)).alloc (.map #[] 0)) := by
    refine ⟨fun i hi h1 => ?_, ?_, by rw [World.size_alloc, World.size_alloc, hB], by subst hB; exact ((Below.refl _ _).alloc (Nat.le_refl _) _).alloc (by simp) _⟩
    · obtain rfl : i = 0 := by omega
      rw [heap_alloc_old _ _ (by rw [World.size_alloc]; omega), Nat.add_zero, ← hB]
      exact heap_alloc_new w _
    · have := World.ownsMap_made (w.alloc (.cells (argC 0) 74)) Tryz.prog 9 (formR B)
      rw [World.size_alloc, hB] at this
      exact this
  have m0 := g0.lay (by omega)
  rw [hB] at hv
  clear g0
  go_enter Tryz.func21, Tryz.ntmps21
  go_wp2_with (first | (refine wpList_insert_in _ rfl _ _ _ 45 rfl 9 77 keyS Tryz.underlying45 (formR B) (B + 1) 0 (tblD 0) rfl m0.map (by unfold maxLen; omega) _ (formV B 1) (.string (wordL 1)) rfl rfl (keyL (wordL 1) (by decide)) (.lit (.int .i64 ((1 : Nat) : Int))) [] (formR_mk B 1 (by omega)) ?_))
  intro w1 o1 t1
  have m1 := m0.put o1 t1 (by omega)
  have s1 := m1.size
  clear o1 t1 m0
  have l1 := m1.lay (by omega)
  clear m1
  go_wp2_with (first | (refine wpList_insert_in _ rfl _ _ _ 45 rfl 9 77 keyS Tryz.underlying45 (formR B) (B + 1) 1 (tblD 1) rfl l1.map (by unfold maxLen; omega) _ (formV B 2) (.string (wordL 2)) rfl rfl (keyL (wordL 2) (by decide)) (.lit (.int .i64 ((2 : Nat) : Int))) [] (formR_mk B 2 (by omega)) ?_))
  intro w2 o2 t2
  have m2 := l1.put o2 t2 (by omega)
  have s2 := m2.size
  clear o2 t2 l1
  go_wp2_with (first | (refine wpList_insert_in _ rfl _ _ _ 45 rfl 9 77 keyS Tryz.underlying45 (formR B) (B + 1) 2 (tblD 2) rfl m2.map (by unfold maxLen; omega) _ (formV B 3) (.string (wordL 3)) rfl rfl (keyL (wordL 3) (by decide)) (.lit (.int .i64 ((3 : Nat) : Int))) [] (formR_mk B 3 (by omega)) ?_))
  intro w3 o3 t3
  have m3 := m2.put o3 t3 (by omega)
  have s3 := m3.size
  clear o3 t3 m2
  go_wp2_with (first | (refine wpList_insert_in _ rfl _ _ _ 45 rfl 9 77 keyS Tryz.underlying45 (formR B) (B + 1) 3 (tblD 3) rfl m3.map (by unfold maxLen; omega) _ (formV B 4) (.string (wordL 4)) rfl rfl (keyL (wordL 4) (by decide)) (.lit (.int .i64 ((4 : Nat) : Int))) [] (formR_mk B 4 (by omega)) ?_))
  intro w4 o4 t4
  have m4 := m3.put o4 t4 (by omega)
  have s4 := m4.size
  clear o4 t4 m3
  go_wp2_with (first | (refine wpList_insert_in _ rfl _ _ _ 45 rfl 9 77 keyS Tryz.underlying45 (formR B) (B + 1) 4 (tblD 4) rfl m4.map (by unfold maxLen; omega) _ (formV B 5) (.string (wordL 5)) rfl rfl (keyL (wordL 5) (by decide)) (.lit (.int .i64 ((5 : Nat) : Int))) [] (formR_mk B 5 (by omega)) ?_))
  intro w5 o5 t5
  have m5 := m4.put o5 t5 (by omega)
  have s5 := m5.size
  clear o5 t5 m4
  go_wp2_with (first | (refine wpList_insert_in _ rfl _ _ _ 45 rfl 9 77 keyS Tryz.underlying45 (formR B) (B + 1) 5 (tblD 5) rfl m5.map (by unfold maxLen; omega) _ (formV B 6) (.string (wordL 6)) rfl rfl (keyL (wordL 6) (by decide)) (.lit (.int .i64 ((6 : Nat) : Int))) [] (formR_mk B 6 (by omega)) ?_))
  intro w6 o6 t6
  have m6 := m5.put o6 t6 (by omega)
  have s6 := m6.size
  clear o6 t6 m5
  go_wp2_with (first | (refine wpList_insert_in _ rfl _ _ _ 45 rfl 9 77 keyS Tryz.underlying45 (formR B) (B + 1) 6 (tblD 6) rfl m6.map (by unfold maxLen; omega) _ (formV B 7) (.string (wordL 7)) rfl rfl (keyL (wordL 7) (by decide)) (.lit (.int .i64 ((7 : Nat) : Int))) [] (formR_mk B 7 (by omega)) ?_))
  intro w7 o7 t7
  have m7 := m6.put o7 t7 (by omega)
  have s7 := m7.size
  clear o7 t7 m6
  go_wp2_with (first | (refine wpList_insert_in _ rfl _ _ _ 45 rfl 9 77 keyS Tryz.underlying45 (formR B) (B + 1) 7 (tblD 7) rfl m7.map (by unfold maxLen; omega) _ (formV B 8) (.string (wordL 8)) rfl rfl (keyL (wordL 8) (by decide)) (.lit (.int .i64 ((8 : Nat) : Int))) [] (formR_mk B 8 (by omega)) ?_))
  intro w8 o8 t8
  have m8 := m7.put o8 t8 (by omega)
  have s8 := m8.size
  clear o8 t8 m7
  go_wp2_with (first | (refine wpList_insert_in _ rfl _ _ _ 45 rfl 9 77 keyS Tryz.underlying45 (formR B) (B + 1) 8 (tblD 8) rfl m8.map (by unfold maxLen; omega) _ (formV B 9) (.string (wordL 9)) rfl rfl (keyL (wordL 9) (by decide)) (.lit (.int .i64 ((9 : Nat) : Int))) [] (formR_mk B 9 (by omega)) ?_))
  intro w9 o9 t9
  have m9 := m8.put o9 t9 (by omega)
  have s9 := m9.size
  clear o9 t9 m8
  have l9 := m9.lay (by omega)
  clear m9
  go_wp2_with (first | (refine wpList_insert_in _ rfl _ _ _ 45 rfl 9 77 keyS Tryz.underlying45 (formR B) (B + 1) 9 (tblD 9) rfl l9.map (by unfold maxLen; omega) _ (formV B 10) (.string (wordL 10)) rfl rfl (keyL (wordL 10) (by decide)) (.lit (.int .i64 ((10 : Nat) : Int))) [] (formR_mk B 10 (by omega)) ?_))
  intro w10 o10 t10
  have m10 := l9.put o10 t10 (by omega)
  have s10 := m10.size
  clear o10 t10 l9
  have l10 := m10.lay (by omega)
  clear m10
  go_wp2_with (first | (refine wpList_insert_in _ rfl _ _ _ 45 rfl 9 77 keyS Tryz.underlying45 (formR B) (B + 1) 10 (tblD 10) rfl l10.map (by unfold maxLen; omega) _ (formV B 11) (.string (wordL 11)) rfl rfl (keyL (wordL 11) (by decide)) (.lit (.int .i64 ((11 : Nat) : Int))) [] (formR_mk B 11 (by omega)) ?_))
  intro w11 o11 t11
  have m11 := l10.put o11 t11 (by omega)
  have s11 := m11.size
  clear o11 t11 l10
  have l11 := m11.lay (by omega)
  clear m11
  go_wp2_with (first | (refine wpList_insert_in _ rfl _ _ _ 45 rfl 9 77 keyS Tryz.underlying45 (formR B) (B + 1) 11 (tblD 11) rfl l11.map (by unfold maxLen; omega) _ (formV B 12) (.string (wordL 12)) rfl rfl (keyL (wordL 12) (by decide)) (.lit (.int .i64 ((12 : Nat) : Int))) [] (formR_mk B 12 (by omega)) ?_))
  intro w12 o12 t12
  have m12 := l11.put o12 t12 (by omega)
  have s12 := m12.size
  clear o12 t12 l11
  go_wp2_with (first | (refine wpList_insert_in _ rfl _ _ _ 45 rfl 9 77 keyS Tryz.underlying45 (formR B) (B + 1) 12 (tblD 12) rfl m12.map (by unfold maxLen; omega) _ (formV B 13) (.string (wordL 13)) rfl rfl (keyL (wordL 13) (by decide)) (.lit (.int .i64 ((13 : Nat) : Int))) [] (formR_mk B 13 (by omega)) ?_))
  intro w13 o13 t13
  have m13 := m12.put o13 t13 (by omega)
  have s13 := m13.size
  clear o13 t13 m12
  go_wp2_with fail
  go_ret
  rw [hB]
  exact ⟨rfl, m13.done, m13.low⟩
end Go.Proofs.YtjclhlicginekaaGreatDoor
