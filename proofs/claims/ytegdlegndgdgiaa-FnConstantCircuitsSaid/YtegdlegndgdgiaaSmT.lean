/- Simplification: finding or appending a gate, constants and negations: the model's. No condition. -/
import Derived.Test.YtegdlegndgdgiaaProg
import Derived.Test.YtegdlegndgdgiaaS1
import Derived.Test.YtegdlegndgdgiaaW2
import Derived.BigQuiet
import Derived.Laws.StructEq
namespace Go.Proofs.Ytegdlegndgdgiaa
open Go Go.RowKit
/-- A gate was found or appended: its wire, and the circuit. -/
def PutO (B g : Nat) (v1 : Rest) (n : Nat) (r : List Int × Int) (v : Value) (w : World) (e : Ending) (w' : World) : Prop :=
  ∃ (v' : Value) (n' : Nat), e = .returned (.int .i64 r.2) ∧ n ≤ n' ∧ n' ≤ n + 1 ∧ Cir B g w' v' v1 n' r.1 ∧ Turn g v w v' w'
/-- A gate in memory. -/
theorem Cir.gate {B g n : Nat} {w : World} {v : Value} {v1 : Rest} {z : List Int} (h : Cir B g w v v1 n z) {i : Nat} (hi : i < n) :
    ∃ q c, v = .slice (some ⟨q, 0, none⟩) n c ∧ w.cell? ⟨q, i * 3, none⟩ = some (.int .i64 (gk z i)) ∧ w.cell? ⟨q, i * 3 + 1, none⟩ = some (.int .i64 (ga z i)) ∧ w.cell? ⟨q, i * 3 + 2, none⟩ = some (.int .i64 (gb z i)) := by
  have hl := h.len
  obtain ⟨A, m, c, rfl, rfl⟩ := ownsRow_slice h.own
  obtain ⟨q, rfl, _⟩ := own_addr h.own (by omega)
  have at_ : ∀ j, j < n * 3 → w.cell? ⟨q, j, none⟩ = some (.int .i64 (z.getD j 0)) := fun j hj => by
    rw [h.own.cellAt j hj]
    simp [intVals, List.getElem?_map, List.getD_eq_getElem?_getD, List.getElem?_eq_getElem (show j < z.length by omega)]
  exact ⟨q, c, rfl, at_ _ (by omega), at_ _ (by omega), at_ _ (by omega)⟩
/-- Comparing two gates. -/
theorem gate_eql (k a b k' a' b' : Int) (w : World) : (binOp .eql 45 (.agg #[.int .i64 k, .int .i64 a, .int .i64 b]) (.agg #[.int .i64 k', .int .i64 a', .int .i64 b'])).run Try.prog w = .ok (.bool (decide (k = k' ∧ a = a' ∧ b = b'))) w := by
  have hS : Try.prog.underlying 45 = some (.struct (Try.prog.fieldsOf 45)) := by kernel_rfl
  have hp : Try.prog.stoodInHeld 45 = false := by kernel_rfl
  rw [run_eql_struct, show (10000 : Nat) = 9999 + 1 from rfl, run_equalIn_agg w 9999 45 _ _ hS hp]
  simp only [Program.fieldsOf, Try.underlying45]
  go_simp
  by_cases h1 : k = k' <;> by_cases h2 : a = a' <;> by_cases h3 : b = b' <;> simp [h1, h2, h3]
theorem gate_guard : Try.prog.eqGuardType Try.prog.depth 45 = false := by kernel_rfl
set_option maxRecDepth 100000 in
set_option maxHeartbeats 1000000 in
theorem spec_l16GateA (B g n : Nat) (v : Value) (v1 : Rest) (z : List Int) (k a b : Int) (hab : ¬ b < a) (w : World) (h : Cir B g w v v1 n z) (hB : B ≤ w.heap.size) (hn : n ≤ 900000) :
    Calls Try.prog 117 #[.pointer (some ⟨g, 0, none⟩), .int .i64 k, .int .i64 a, .int .i64 b] w (PutO B g v1 n (gateG z k a b) v w) := by
  have hl := h.len
  have hn3 : z.length / 3 = n := by omega
  have gl := h.lt
  obtain ⟨A, m, c, rfl, rfl⟩ := ownsRow_slice h.own
  have al := below_alloc w (.cells #[.int .i64 k, .int .i64 a, .int .i64 b] 45)
  have b0 := heap_alloc_new w (.cells #[.int .i64 k, .int .i64 a, .int .i64 b] 45)
  have h0 := h.below al
  have t0 := (Turn.refl g (.slice A n c) w).below al
  have B0 : B ≤ (w.alloc (.cells #[.int .i64 k, .int .i64 a, .int .i64 b] 45)).heap.size := by simp; omega
  obtain ⟨x0, -⟩ := blk (i := 0) b0 rfl
  obtain ⟨x1, -⟩ := blk (i := 1) b0 rfl
  obtain ⟨x2, -⟩ := blk (i := 2) b0 rfl
  have S0 := Lib.hid (And.intro h0 t0)
  have b5 : decide (b < a) = false := decide_eq_false hab
  clear h h0 t0
  go_enter Try.func117, Try.ntmps117
  go_wp2_with fail
  generalize w.alloc (.cells #[.int .i64 k, .int .i64 a, .int .i64 b] 45) = w0 at *
  go_loopw [10] (fun i wr => ∃ j : Nat, j ≤ n ∧ i = .int .i64 j ∧ (∀ t, t < j → ¬ isG z k a b t) ∧ Cir B g wr (.slice A n c) v1 n z ∧ Turn g (.slice A n c) w (.slice A n c) wr ∧ wr.heap[w.heap.size]? = some (.cells #[.int .i64 k, .int .i64 a, .int .i64 b] 45 (0, 0))) (fun i _ => n - (intOf i).toNat)
  case atStart => exact ⟨0, by omega, rfl, fun t ht => by omega, S0.out.1, S0.out.2, b0⟩
  case round =>
    obtain ⟨j, hj, rfl, hno, hc, ht, hb⟩ := hrel
    clear S0
    have y0 := (blk (i := 0) (u := .int .i64 k) hb rfl).1
    have y1 := (blk (i := 1) (u := .int .i64 a) hb rfl).1
    have y2 := (blk (i := 2) (u := .int .i64 b) hb rfl).1
    have g0 := (blk (i := 0) (u := .slice A n c) hc.box rfl).1
    by_cases hlt : j < n
    · have j0 : (0 : Int) ≤ j := by omega
      have j1 : (j : Int) < n := by omega
      obtain ⟨qg, cg, e1, c0, c1, c2⟩ := hc.gate hlt
      injection e1 with e11 e12 e13
      subst e11 e13
      have hm := gate_guard
      by_cases hG : isG z k a b j
      · have eq1 := fun W => gate_eql (gk z j) (ga z j) (gb z j) k a b W
        rw [decide_eq_true (show gk z j = k ∧ ga z j = a ∧ gb z j = b from hG)] at eq1
        have HF := Lib.hid (show gateG z k a b = (z, (j : Int)) by
          have ef := findG_is hlt hG hno
          unfold gateG
          rw [hn3, ef, if_pos hlt])
        have C := Lib.hid (And.intro hc ht)
        clear hno hc ht e12 hb hG
        go_wp2_with fail
        go_quiet (fail)
        go_wp2_with fail
        go_ret
        exact ⟨_, n, ret_int (by rw [HF.out]), Nat.le_refl _, by omega, by rw [HF.out]; exact C.out.1.drewN _, C.out.2.drewN _⟩
      · have eq1 := fun W => gate_eql (gk z j) (ga z j) (gb z j) k a b W
        rw [decide_eq_false (show ¬ (gk z j = k ∧ ga z j = a ∧ gb z j = b) from hG)] at eq1
        have HN := Lib.hid (show ∀ t, t < j + 1 → ¬ isG z k a b t from fun t ht2 => by
          rcases Nat.lt_or_ge t j with h1 | h1
          · exact hno t h1
          · have e : t = j := by omega
            subst e
            exact hG)
        have C := Lib.hid (And.intro hc (And.intro ht hb))
        clear hno hc ht e12 hb hG
        go_wp2_with fail
        go_quiet (fail)
        go_wp2_with fail
        go_roundw
        case rel => exact ⟨j + 1, by omega, by go_num, HN.out, C.out.1.drewN _, C.out.2.1.drewN _, C.out.2.2⟩
        case measure => simp [intOf]; omega
    · obtain rfl : j = n := by omega
      have HF := Lib.hid (show gateG z k a b = (putG z k a b, nG z) by
        have ef := findG_none hno
        unfold gateG
        rw [hn3, ef, if_neg (Nat.lt_irrefl _)])
      have B1 : B ≤ wr.heap.size := Nat.le_trans hB ht.size
      have cP := spec_l14Put B g j (.slice A j c) v1 z k a b wr hc B1 (by omega)
      have T1 := Lib.hid ht
      clear hc ht hb hno
      go_wp2_with fail
      refine cP.mono ?_
      rintro e w4 ⟨v4, rfl, h4, t4⟩
      have C := Lib.hid (And.intro h4 t4)
      clear h4 t4 cP
      go_wp2_with fail
      go_ret
      exact ⟨v4, j + 1, ret_int (by rw [HF.out]), by omega, Nat.le_refl _, by rw [HF.out]; exact C.out.1, T1.out.trans C.out.2⟩
set_option maxRecDepth 100000 in
set_option maxHeartbeats 1000000 in
theorem spec_l16GateB (B g n : Nat) (v : Value) (v1 : Rest) (z : List Int) (k a b : Int) (hab : b < a) (h3 : ¬ k = 3) (h4 : ¬ k = 4) (w : World) (h : Cir B g w v v1 n z) (hB : B ≤ w.heap.size) (hn : n ≤ 900000) :
    Calls Try.prog 117 #[.pointer (some ⟨g, 0, none⟩), .int .i64 k, .int .i64 a, .int .i64 b] w (PutO B g v1 n (gateG z k a b) v w) := by
  have hl := h.len
  have hn3 : z.length / 3 = n := by omega
  have gl := h.lt
  obtain ⟨A, m, c, rfl, rfl⟩ := ownsRow_slice h.own
  have al := below_alloc w (.cells #[.int .i64 k, .int .i64 a, .int .i64 b] 45)
  have b0 := heap_alloc_new w (.cells #[.int .i64 k, .int .i64 a, .int .i64 b] 45)
  have h0 := h.below al
  have t0 := (Turn.refl g (.slice A n c) w).below al
  have B0 : B ≤ (w.alloc (.cells #[.int .i64 k, .int .i64 a, .int .i64 b] 45)).heap.size := by simp; omega
  obtain ⟨x0, -⟩ := blk (i := 0) b0 rfl
  obtain ⟨x1, -⟩ := blk (i := 1) b0 rfl
  obtain ⟨x2, -⟩ := blk (i := 2) b0 rfl
  have S0 := Lib.hid (And.intro h0 t0)
  have b5 : decide (b < a) = true := decide_eq_true hab
  have b3 : (k == 3) = false := by simp [h3]
  have b4 : (k == 4) = false := by simp [h4]
  clear h h0 t0
  go_enter Try.func117, Try.ntmps117
  go_wp2_with fail
  generalize w.alloc (.cells #[.int .i64 k, .int .i64 a, .int .i64 b] 45) = w0 at *
  go_loopw [10] (fun i wr => ∃ j : Nat, j ≤ n ∧ i = .int .i64 j ∧ (∀ t, t < j → ¬ isG z k a b t) ∧ Cir B g wr (.slice A n c) v1 n z ∧ Turn g (.slice A n c) w (.slice A n c) wr ∧ wr.heap[w.heap.size]? = some (.cells #[.int .i64 k, .int .i64 a, .int .i64 b] 45 (0, 0))) (fun i _ => n - (intOf i).toNat)
  case atStart => exact ⟨0, by omega, rfl, fun t ht => by omega, S0.out.1, S0.out.2, b0⟩
  case round =>
    obtain ⟨j, hj, rfl, hno, hc, ht, hb⟩ := hrel
    clear S0
    have y0 := (blk (i := 0) (u := .int .i64 k) hb rfl).1
    have y1 := (blk (i := 1) (u := .int .i64 a) hb rfl).1
    have y2 := (blk (i := 2) (u := .int .i64 b) hb rfl).1
    have g0 := (blk (i := 0) (u := .slice A n c) hc.box rfl).1
    by_cases hlt : j < n
    · have j0 : (0 : Int) ≤ j := by omega
      have j1 : (j : Int) < n := by omega
      obtain ⟨qg, cg, e1, c0, c1, c2⟩ := hc.gate hlt
      injection e1 with e11 e12 e13
      subst e11 e13
      have hm := gate_guard
      by_cases hG : isG z k a b j
      · have eq1 := fun W => gate_eql (gk z j) (ga z j) (gb z j) k a b W
        rw [decide_eq_true (show gk z j = k ∧ ga z j = a ∧ gb z j = b from hG)] at eq1
        have HF := Lib.hid (show gateG z k a b = (z, (j : Int)) by
          have ef := findG_is hlt hG hno
          unfold gateG
          rw [hn3, ef, if_pos hlt])
        have C := Lib.hid (And.intro hc ht)
        clear hno hc ht e12 hb hG
        go_wp2_with fail
        go_quiet (fail)
        go_wp2_with fail
        go_ret
        exact ⟨_, n, ret_int (by rw [HF.out]), Nat.le_refl _, by omega, by rw [HF.out]; exact C.out.1.drewN _, C.out.2.drewN _⟩
      · have eq1 := fun W => gate_eql (gk z j) (ga z j) (gb z j) k a b W
        rw [decide_eq_false (show ¬ (gk z j = k ∧ ga z j = a ∧ gb z j = b) from hG)] at eq1
        have HN := Lib.hid (show ∀ t, t < j + 1 → ¬ isG z k a b t from fun t ht2 => by
          rcases Nat.lt_or_ge t j with h1 | h1
          · exact hno t h1
          · have e : t = j := by omega
            subst e
            exact hG)
        have C := Lib.hid (And.intro hc (And.intro ht hb))
        clear hno hc ht e12 hb hG
        go_wp2_with fail
        go_quiet (fail)
        go_wp2_with fail
        go_roundw
        case rel => exact ⟨j + 1, by omega, by go_num, HN.out, C.out.1.drewN _, C.out.2.1.drewN _, C.out.2.2⟩
        case measure => simp [intOf]; omega
    · obtain rfl : j = n := by omega
      have HF := Lib.hid (show gateG z k a b = (putG z k a b, nG z) by
        have ef := findG_none hno
        unfold gateG
        rw [hn3, ef, if_neg (Nat.lt_irrefl _)])
      have B1 : B ≤ wr.heap.size := Nat.le_trans hB ht.size
      have cP := spec_l14Put B g j (.slice A j c) v1 z k a b wr hc B1 (by omega)
      have T1 := Lib.hid ht
      clear hc ht hb hno
      go_wp2_with fail
      refine cP.mono ?_
      rintro e w4 ⟨v4, rfl, h4, t4⟩
      have C := Lib.hid (And.intro h4 t4)
      clear h4 t4 cP
      go_wp2_with fail
      go_ret
      exact ⟨v4, j + 1, ret_int (by rw [HF.out]), by omega, Nat.le_refl _, by rw [HF.out]; exact C.out.1, T1.out.trans C.out.2⟩
set_option maxRecDepth 100000 in
set_option maxHeartbeats 1000000 in
theorem spec_l16GateC (B g n : Nat) (v : Value) (v1 : Rest) (z : List Int) (a b : Int) (hab : b < a) (w : World) (h : Cir B g w v v1 n z) (hB : B ≤ w.heap.size) (hn : n ≤ 900000) :
    Calls Try.prog 117 #[.pointer (some ⟨g, 0, none⟩), .int .i64 3, .int .i64 a, .int .i64 b] w (PutO B g v1 n (gateG z 3 b a) v w) := by
  have hl := h.len
  have hn3 : z.length / 3 = n := by omega
  have gl := h.lt
  obtain ⟨A, m, c, rfl, rfl⟩ := ownsRow_slice h.own
  have al := below_alloc w (.cells #[.int .i64 3, .int .i64 b, .int .i64 a] 45)
  have b0 := heap_alloc_new w (.cells #[.int .i64 3, .int .i64 b, .int .i64 a] 45)
  have h0 := h.below al
  have t0 := (Turn.refl g (.slice A n c) w).below al
  have B0 : B ≤ (w.alloc (.cells #[.int .i64 3, .int .i64 b, .int .i64 a] 45)).heap.size := by simp; omega
  obtain ⟨x0, -⟩ := blk (i := 0) b0 rfl
  obtain ⟨x1, -⟩ := blk (i := 1) b0 rfl
  obtain ⟨x2, -⟩ := blk (i := 2) b0 rfl
  have S0 := Lib.hid (And.intro h0 t0)
  have b5 : decide (b < a) = true := decide_eq_true hab
  clear h h0 t0
  go_enter Try.func117, Try.ntmps117
  go_wp2_with fail
  generalize w.alloc (.cells #[.int .i64 3, .int .i64 b, .int .i64 a] 45) = w0 at *
  go_loopw [10] (fun i wr => ∃ j : Nat, j ≤ n ∧ i = .int .i64 j ∧ (∀ t, t < j → ¬ isG z 3 b a t) ∧ Cir B g wr (.slice A n c) v1 n z ∧ Turn g (.slice A n c) w (.slice A n c) wr ∧ wr.heap[w.heap.size]? = some (.cells #[.int .i64 3, .int .i64 b, .int .i64 a] 45 (0, 0))) (fun i _ => n - (intOf i).toNat)
  case atStart => exact ⟨0, by omega, rfl, fun t ht => by omega, S0.out.1, S0.out.2, b0⟩
  case round =>
    obtain ⟨j, hj, rfl, hno, hc, ht, hb⟩ := hrel
    clear S0
    have y0 := (blk (i := 0) (u := .int .i64 3) hb rfl).1
    have y1 := (blk (i := 1) (u := .int .i64 b) hb rfl).1
    have y2 := (blk (i := 2) (u := .int .i64 a) hb rfl).1
    have g0 := (blk (i := 0) (u := .slice A n c) hc.box rfl).1
    by_cases hlt : j < n
    · have j0 : (0 : Int) ≤ j := by omega
      have j1 : (j : Int) < n := by omega
      obtain ⟨qg, cg, e1, c0, c1, c2⟩ := hc.gate hlt
      injection e1 with e11 e12 e13
      subst e11 e13
      have hm := gate_guard
      by_cases hG : isG z 3 b a j
      · have eq1 := fun W => gate_eql (gk z j) (ga z j) (gb z j) 3 b a W
        rw [decide_eq_true (show gk z j = 3 ∧ ga z j = b ∧ gb z j = a from hG)] at eq1
        have HF := Lib.hid (show gateG z 3 b a = (z, (j : Int)) by
          have ef := findG_is hlt hG hno
          unfold gateG
          rw [hn3, ef, if_pos hlt])
        have C := Lib.hid (And.intro hc ht)
        clear hno hc ht e12 hb hG
        go_wp2_with fail
        go_quiet (fail)
        go_wp2_with fail
        go_ret
        exact ⟨_, n, ret_int (by rw [HF.out]), Nat.le_refl _, by omega, by rw [HF.out]; exact C.out.1.drewN _, C.out.2.drewN _⟩
      · have eq1 := fun W => gate_eql (gk z j) (ga z j) (gb z j) 3 b a W
        rw [decide_eq_false (show ¬ (gk z j = 3 ∧ ga z j = b ∧ gb z j = a) from hG)] at eq1
        have HN := Lib.hid (show ∀ t, t < j + 1 → ¬ isG z 3 b a t from fun t ht2 => by
          rcases Nat.lt_or_ge t j with h1 | h1
          · exact hno t h1
          · have e : t = j := by omega
            subst e
            exact hG)
        have C := Lib.hid (And.intro hc (And.intro ht hb))
        clear hno hc ht e12 hb hG
        go_wp2_with fail
        go_quiet (fail)
        go_wp2_with fail
        go_roundw
        case rel => exact ⟨j + 1, by omega, by go_num, HN.out, C.out.1.drewN _, C.out.2.1.drewN _, C.out.2.2⟩
        case measure => simp [intOf]; omega
    · obtain rfl : j = n := by omega
      have HF := Lib.hid (show gateG z 3 b a = (putG z 3 b a, nG z) by
        have ef := findG_none hno
        unfold gateG
        rw [hn3, ef, if_neg (Nat.lt_irrefl _)])
      have B1 : B ≤ wr.heap.size := Nat.le_trans hB ht.size
      have cP := spec_l14Put B g j (.slice A j c) v1 z 3 b a wr hc B1 (by omega)
      have T1 := Lib.hid ht
      clear hc ht hb hno
      go_wp2_with fail
      refine cP.mono ?_
      rintro e w4 ⟨v4, rfl, h4, t4⟩
      have C := Lib.hid (And.intro h4 t4)
      clear h4 t4 cP
      go_wp2_with fail
      go_ret
      exact ⟨v4, j + 1, ret_int (by rw [HF.out]), by omega, Nat.le_refl _, by rw [HF.out]; exact C.out.1, T1.out.trans C.out.2⟩
set_option maxRecDepth 100000 in
set_option maxHeartbeats 1000000 in
theorem spec_l16GateD (B g n : Nat) (v : Value) (v1 : Rest) (z : List Int) (a b : Int) (hab : b < a) (w : World) (h : Cir B g w v v1 n z) (hB : B ≤ w.heap.size) (hn : n ≤ 900000) :
    Calls Try.prog 117 #[.pointer (some ⟨g, 0, none⟩), .int .i64 4, .int .i64 a, .int .i64 b] w (PutO B g v1 n (gateG z 4 b a) v w) := by
  have hl := h.len
  have hn3 : z.length / 3 = n := by omega
  have gl := h.lt
  obtain ⟨A, m, c, rfl, rfl⟩ := ownsRow_slice h.own
  have al := below_alloc w (.cells #[.int .i64 4, .int .i64 b, .int .i64 a] 45)
  have b0 := heap_alloc_new w (.cells #[.int .i64 4, .int .i64 b, .int .i64 a] 45)
  have h0 := h.below al
  have t0 := (Turn.refl g (.slice A n c) w).below al
  have B0 : B ≤ (w.alloc (.cells #[.int .i64 4, .int .i64 b, .int .i64 a] 45)).heap.size := by simp; omega
  obtain ⟨x0, -⟩ := blk (i := 0) b0 rfl
  obtain ⟨x1, -⟩ := blk (i := 1) b0 rfl
  obtain ⟨x2, -⟩ := blk (i := 2) b0 rfl
  have S0 := Lib.hid (And.intro h0 t0)
  have b5 : decide (b < a) = true := decide_eq_true hab
  clear h h0 t0
  go_enter Try.func117, Try.ntmps117
  go_wp2_with fail
  generalize w.alloc (.cells #[.int .i64 4, .int .i64 b, .int .i64 a] 45) = w0 at *
  go_loopw [10] (fun i wr => ∃ j : Nat, j ≤ n ∧ i = .int .i64 j ∧ (∀ t, t < j → ¬ isG z 4 b a t) ∧ Cir B g wr (.slice A n c) v1 n z ∧ Turn g (.slice A n c) w (.slice A n c) wr ∧ wr.heap[w.heap.size]? = some (.cells #[.int .i64 4, .int .i64 b, .int .i64 a] 45 (0, 0))) (fun i _ => n - (intOf i).toNat)
  case atStart => exact ⟨0, by omega, rfl, fun t ht => by omega, S0.out.1, S0.out.2, b0⟩
  case round =>
    obtain ⟨j, hj, rfl, hno, hc, ht, hb⟩ := hrel
    clear S0
    have y0 := (blk (i := 0) (u := .int .i64 4) hb rfl).1
    have y1 := (blk (i := 1) (u := .int .i64 b) hb rfl).1
    have y2 := (blk (i := 2) (u := .int .i64 a) hb rfl).1
    have g0 := (blk (i := 0) (u := .slice A n c) hc.box rfl).1
    by_cases hlt : j < n
    · have j0 : (0 : Int) ≤ j := by omega
      have j1 : (j : Int) < n := by omega
      obtain ⟨qg, cg, e1, c0, c1, c2⟩ := hc.gate hlt
      injection e1 with e11 e12 e13
      subst e11 e13
      have hm := gate_guard
      by_cases hG : isG z 4 b a j
      · have eq1 := fun W => gate_eql (gk z j) (ga z j) (gb z j) 4 b a W
        rw [decide_eq_true (show gk z j = 4 ∧ ga z j = b ∧ gb z j = a from hG)] at eq1
        have HF := Lib.hid (show gateG z 4 b a = (z, (j : Int)) by
          have ef := findG_is hlt hG hno
          unfold gateG
          rw [hn3, ef, if_pos hlt])
        have C := Lib.hid (And.intro hc ht)
        clear hno hc ht e12 hb hG
        go_wp2_with fail
        go_quiet (fail)
        go_wp2_with fail
        go_ret
        exact ⟨_, n, ret_int (by rw [HF.out]), Nat.le_refl _, by omega, by rw [HF.out]; exact C.out.1.drewN _, C.out.2.drewN _⟩
      · have eq1 := fun W => gate_eql (gk z j) (ga z j) (gb z j) 4 b a W
        rw [decide_eq_false (show ¬ (gk z j = 4 ∧ ga z j = b ∧ gb z j = a) from hG)] at eq1
        have HN := Lib.hid (show ∀ t, t < j + 1 → ¬ isG z 4 b a t from fun t ht2 => by
          rcases Nat.lt_or_ge t j with h1 | h1
          · exact hno t h1
          · have e : t = j := by omega
            subst e
            exact hG)
        have C := Lib.hid (And.intro hc (And.intro ht hb))
        clear hno hc ht e12 hb hG
        go_wp2_with fail
        go_quiet (fail)
        go_wp2_with fail
        go_roundw
        case rel => exact ⟨j + 1, by omega, by go_num, HN.out, C.out.1.drewN _, C.out.2.1.drewN _, C.out.2.2⟩
        case measure => simp [intOf]; omega
    · obtain rfl : j = n := by omega
      have HF := Lib.hid (show gateG z 4 b a = (putG z 4 b a, nG z) by
        have ef := findG_none hno
        unfold gateG
        rw [hn3, ef, if_neg (Nat.lt_irrefl _)])
      have B1 : B ≤ wr.heap.size := Nat.le_trans hB ht.size
      have cP := spec_l14Put B g j (.slice A j c) v1 z 4 b a wr hc B1 (by omega)
      have T1 := Lib.hid ht
      clear hc ht hb hno
      go_wp2_with fail
      refine cP.mono ?_
      rintro e w4 ⟨v4, rfl, h4, t4⟩
      have C := Lib.hid (And.intro h4 t4)
      clear h4 t4 cP
      go_wp2_with fail
      go_ret
      exact ⟨v4, j + 1, ret_int (by rw [HF.out]), by omega, Nat.le_refl _, by rw [HF.out]; exact C.out.1, T1.out.trans C.out.2⟩
theorem spec_l16Gate (B g n : Nat) (v : Value) (v1 : Rest) (z : List Int) (k a b : Int) (w : World) (h : Cir B g w v v1 n z) (hB : B ≤ w.heap.size) (hn : n ≤ 900000) :
    Calls Try.prog 117 #[.pointer (some ⟨g, 0, none⟩), .int .i64 k, .int .i64 a, .int .i64 b] w (PutO B g v1 n (ordG z k a b) v w) := by
  unfold ordG
  by_cases hab : b < a
  · by_cases h3 : k = 3
    · subst h3
      rw [if_pos ⟨hab, .inl rfl⟩]
      exact spec_l16GateC B g n v v1 z a b hab w h hB hn
    · by_cases h4 : k = 4
      · subst h4
        rw [if_pos ⟨hab, .inr rfl⟩]
        exact spec_l16GateD B g n v v1 z a b hab w h hB hn
      · rw [if_neg (fun e => e.2.elim h3 h4)]
        exact spec_l16GateB B g n v v1 z k a b hab h3 h4 w h hB hn
  · rw [if_neg (fun e => hab e.1)]
    exact spec_l16GateA B g n v v1 z k a b hab w h hB hn
set_option maxHeartbeats 400000 in
theorem spec_l16Value (B g n : Nat) (v : Value) (v1 : Rest) (z : List Int) (i : Nat) (hi : i < n) (w : World) (h : Cir B g w v v1 n z) :
    Calls Try.prog 152 #[.pointer (some ⟨g, 0, none⟩), .int .i64 i] w fun e w' => e = .returned (.int .i64 (valG z i)) ∧ w = w' := by
  obtain ⟨q, c, rfl, c0, c1, _⟩ := h.gate hi
  have g0 := (blk (i := 0) (u := .slice (some ⟨q, 0, none⟩) n c) h.box rfl).1
  have j0 : (0 : Int) ≤ i := by omega
  have j1 : (i : Int) < n := by omega
  unfold valG
  rw [Int.toNat_natCast]
  generalize gk z i = x at *
  generalize ga z i = y at *
  clear h
  by_cases h2 : x = 2
  · rw [if_pos h2]
    subst h2
    go_enter Try.func152, Try.ntmps152
    go_wp2_with fail
    go_ret
    exact ⟨rfl, rfl⟩
  · rw [if_neg h2]
    go_enter Try.func152, Try.ntmps152
    go_wp2_with fail
    go_ret
    exact ⟨rfl, rfl⟩
set_option maxHeartbeats 400000 in
theorem spec_l16Not (B g n : Nat) (v : Value) (v1 : Rest) (z : List Int) (hg : gatesOk z n) (i : Nat) (hi : i < n) (w : World) (h : Cir B g w v v1 n z) (hB : B ≤ w.heap.size) (hn : n ≤ 900000) :
    Calls Try.prog 116 #[.pointer (some ⟨g, 0, none⟩), .int .i64 i] w (PutO B g v1 n (notG z i) v w) := by
  have cG := fun k a b => spec_l16Gate B g n v v1 z k a b w h hB hn
  obtain ⟨q, c, e1, c0, c1, _⟩ := h.gate hi
  have g0 := (blk (i := 0) (u := v) h.box rfl).1
  have j0 : (0 : Int) ≤ i := by omega
  have j1 : (i : Int) < n := by omega
  have ok := hg i hi
  have H := Lib.hid h
  unfold notG
  rw [Int.toNat_natCast]
  rw [e1] at g0
  generalize gk z i = x at *
  generalize ga z i = y at *
  clear h
  by_cases h2 : x = 2
  · rw [if_pos h2]
    subst h2
    have hw : IntKind.i64.wrap (1 - y) = 1 - y := by
      unfold gateOk at ok
      rw [IntKind.wrap_i64]
      omega
    have c9 := cG 2 (1 - y) 0
    clear cG ok e1
    go_enter Try.func116, Try.ntmps116
    go_wp2_with fail
    refine c9.mono ?_
    rintro e w1 ⟨v', n', rfl, h1, h2, h3, h4⟩
    have C := Lib.hid (And.intro h3 h4)
    clear h3 h4 c9
    go_wp2_with fail
    go_ret
    exact ⟨v', n', rfl, h1, h2, C.out.1, C.out.2⟩
  rw [if_neg h2]
  by_cases h5 : x = 5
  · rw [if_pos h5]
    subst h5
    clear cG ok
    go_enter Try.func116, Try.ntmps116
    go_wp2_with fail
    go_ret
    exact ⟨v, n, rfl, Nat.le_refl _, by omega, H.out, Turn.refl _ _ _⟩
  · rw [if_neg h5]
    have c9 := cG 5 i 0
    clear cG ok e1
    go_enter Try.func116, Try.ntmps116
    go_wp2_with fail
    refine c9.mono ?_
    rintro e w1 ⟨v', n', rfl, h1, h2, h3, h4⟩
    have C := Lib.hid (And.intro h3 h4)
    clear h3 h4 c9
    go_wp2_with fail
    go_ret
    exact ⟨v', n', rfl, h1, h2, C.out.1, C.out.2⟩
set_option maxHeartbeats 1000000 in
theorem spec_l16Xor (B g n : Nat) (v : Value) (v1 : Rest) (z : List Int) (hg : gatesOk z n) (a b : Nat) (ha : a < n) (hb : b < n) (w : World) (h : Cir B g w v v1 n z) (hB : B ≤ w.heap.size) (hn : n ≤ 900000) :
    Calls Try.prog 114 #[.pointer (some ⟨g, 0, none⟩), .int .i64 a, .int .i64 b] w (PutO B g v1 n (xorG z a b) v w) := by
  have cG := fun k a b => spec_l16Gate B g n v v1 z k a b w h hB hn
  have cN := fun i hi => spec_l16Not B g n v v1 z hg i hi w h hB hn
  have cV0 := spec_l16Value B g n v v1 z a ha w h
  have cV1 := spec_l16Value B g n v v1 z b hb w h
  have H := Lib.hid h
  clear h
  unfold xorG
  generalize valG z a = x at *
  generalize valG z b = y at *
  by_cases q0 : (a : Int) = b
  · rw [if_pos q0]
    have eab : a = b := by omega
    subst eab
    have c9 := cG 2 0 0
    clear cG cN
    go_enter Try.func114, Try.ntmps114
    go_wp2_with fail
    refine c9.mono ?_
    rintro e9 w1 ⟨v', n', rfl, h1, h2, h3, h4⟩
    have C := Lib.hid (And.intro h3 h4)
    clear h3 h4 c9
    go_wp2_with fail
    go_ret
    exact ⟨v', n', rfl, h1, h2, C.out.1, C.out.2⟩
  rw [if_neg q0]
  by_cases q1 : x = 0
  · rw [if_pos q1]
    subst q1
    clear cG cN
    go_enter Try.func114, Try.ntmps114
    go_wp2_with fail
    refine cV0.mono ?_
    rintro e8 w8 ⟨rfl, rfl⟩
    go_wp2_with fail
    go_ret
    exact ⟨v, n, rfl, Nat.le_refl _, by omega, H.out, Turn.refl _ _ _⟩
  rw [if_neg q1]
  by_cases q2 : x = 1
  · rw [if_pos q2]
    subst q2
    have c9 := cN b hb
    clear cG cN
    go_enter Try.func114, Try.ntmps114
    go_wp2_with fail
    refine cV0.mono ?_
    rintro e8 w8 ⟨rfl, rfl⟩
    go_wp2_with fail
    refine cV0.mono ?_
    rintro e8 w8 ⟨rfl, rfl⟩
    go_wp2_with fail
    refine c9.mono ?_
    rintro e9 w1 ⟨v', n', rfl, h1, h2, h3, h4⟩
    have C := Lib.hid (And.intro h3 h4)
    clear h3 h4 c9
    go_wp2_with fail
    go_ret
    exact ⟨v', n', rfl, h1, h2, C.out.1, C.out.2⟩
  rw [if_neg q2]
  by_cases q3 : y = 0
  · rw [if_pos q3]
    subst q3
    clear cG cN
    go_enter Try.func114, Try.ntmps114
    go_wp2_with fail
    refine cV0.mono ?_
    rintro e8 w8 ⟨rfl, rfl⟩
    go_wp2_with fail
    refine cV0.mono ?_
    rintro e8 w8 ⟨rfl, rfl⟩
    go_wp2_with fail
    refine cV1.mono ?_
    rintro e8 w8 ⟨rfl, rfl⟩
    go_wp2_with fail
    go_ret
    exact ⟨v, n, rfl, Nat.le_refl _, by omega, H.out, Turn.refl _ _ _⟩
  rw [if_neg q3]
  by_cases q4 : y = 1
  · rw [if_pos q4]
    subst q4
    have c9 := cN a ha
    clear cG cN
    go_enter Try.func114, Try.ntmps114
    go_wp2_with fail
    refine cV0.mono ?_
    rintro e8 w8 ⟨rfl, rfl⟩
    go_wp2_with fail
    refine cV0.mono ?_
    rintro e8 w8 ⟨rfl, rfl⟩
    go_wp2_with fail
    refine cV1.mono ?_
    rintro e8 w8 ⟨rfl, rfl⟩
    go_wp2_with fail
    refine cV1.mono ?_
    rintro e8 w8 ⟨rfl, rfl⟩
    go_wp2_with fail
    refine c9.mono ?_
    rintro e9 w1 ⟨v', n', rfl, h1, h2, h3, h4⟩
    have C := Lib.hid (And.intro h3 h4)
    clear h3 h4 c9
    go_wp2_with fail
    go_ret
    exact ⟨v', n', rfl, h1, h2, C.out.1, C.out.2⟩
  rw [if_neg q4]
  have c9 := cG 3 a b
  clear cG cN
  go_enter Try.func114, Try.ntmps114
  go_wp2_with fail
  refine cV0.mono ?_
  rintro e8 w8 ⟨rfl, rfl⟩
  go_wp2_with fail
  refine cV0.mono ?_
  rintro e8 w8 ⟨rfl, rfl⟩
  go_wp2_with fail
  refine cV1.mono ?_
  rintro e8 w8 ⟨rfl, rfl⟩
  go_wp2_with fail
  refine cV1.mono ?_
  rintro e8 w8 ⟨rfl, rfl⟩
  go_wp2_with fail
  refine c9.mono ?_
  rintro e9 w1 ⟨v', n', rfl, h1, h2, h3, h4⟩
  have C := Lib.hid (And.intro h3 h4)
  clear h3 h4 c9
  go_wp2_with fail
  go_ret
  exact ⟨v', n', rfl, h1, h2, C.out.1, C.out.2⟩
set_option maxHeartbeats 1000000 in
theorem spec_l16And (B g n : Nat) (v : Value) (v1 : Rest) (z : List Int) (hg : gatesOk z n) (a b : Nat) (ha : a < n) (hb : b < n) (w : World) (h : Cir B g w v v1 n z) (hB : B ≤ w.heap.size) (hn : n ≤ 900000) :
    Calls Try.prog 115 #[.pointer (some ⟨g, 0, none⟩), .int .i64 a, .int .i64 b] w (PutO B g v1 n (andG z a b) v w) := by
  have cG := fun k a b => spec_l16Gate B g n v v1 z k a b w h hB hn
  have cN := fun i hi => spec_l16Not B g n v v1 z hg i hi w h hB hn
  have cV0 := spec_l16Value B g n v v1 z a ha w h
  have cV1 := spec_l16Value B g n v v1 z b hb w h
  have H := Lib.hid h
  clear h
  unfold andG
  generalize valG z a = x at *
  generalize valG z b = y at *
  by_cases q0 : (a : Int) = b
  · rw [if_pos q0]
    have eab : a = b := by omega
    subst eab
    clear cG cN
    go_enter Try.func115, Try.ntmps115
    go_wp2_with fail
    go_ret
    exact ⟨v, n, rfl, Nat.le_refl _, by omega, H.out, Turn.refl _ _ _⟩
  rw [if_neg q0]
  by_cases q1 : x = 0
  · rw [if_pos q1]
    subst q1
    have c9 := cG 2 0 0
    clear cG cN
    go_enter Try.func115, Try.ntmps115
    go_wp2_with fail
    refine cV0.mono ?_
    rintro e8 w8 ⟨rfl, rfl⟩
    go_wp2_with fail
    refine c9.mono ?_
    rintro e9 w1 ⟨v', n', rfl, h1, h2, h3, h4⟩
    have C := Lib.hid (And.intro h3 h4)
    clear h3 h4 c9
    go_wp2_with fail
    go_ret
    exact ⟨v', n', rfl, h1, h2, C.out.1, C.out.2⟩
  rw [if_neg q1]
  by_cases q2 : x = 1
  · rw [if_pos q2]
    subst q2
    clear cG cN
    go_enter Try.func115, Try.ntmps115
    go_wp2_with fail
    refine cV0.mono ?_
    rintro e8 w8 ⟨rfl, rfl⟩
    go_wp2_with fail
    refine cV0.mono ?_
    rintro e8 w8 ⟨rfl, rfl⟩
    go_wp2_with fail
    go_ret
    exact ⟨v, n, rfl, Nat.le_refl _, by omega, H.out, Turn.refl _ _ _⟩
  rw [if_neg q2]
  by_cases q3 : y = 0
  · rw [if_pos q3]
    subst q3
    have c9 := cG 2 0 0
    clear cG cN
    go_enter Try.func115, Try.ntmps115
    go_wp2_with fail
    refine cV0.mono ?_
    rintro e8 w8 ⟨rfl, rfl⟩
    go_wp2_with fail
    refine cV0.mono ?_
    rintro e8 w8 ⟨rfl, rfl⟩
    go_wp2_with fail
    refine cV1.mono ?_
    rintro e8 w8 ⟨rfl, rfl⟩
    go_wp2_with fail
    refine c9.mono ?_
    rintro e9 w1 ⟨v', n', rfl, h1, h2, h3, h4⟩
    have C := Lib.hid (And.intro h3 h4)
    clear h3 h4 c9
    go_wp2_with fail
    go_ret
    exact ⟨v', n', rfl, h1, h2, C.out.1, C.out.2⟩
  rw [if_neg q3]
  by_cases q4 : y = 1
  · rw [if_pos q4]
    subst q4
    clear cG cN
    go_enter Try.func115, Try.ntmps115
    go_wp2_with fail
    refine cV0.mono ?_
    rintro e8 w8 ⟨rfl, rfl⟩
    go_wp2_with fail
    refine cV0.mono ?_
    rintro e8 w8 ⟨rfl, rfl⟩
    go_wp2_with fail
    refine cV1.mono ?_
    rintro e8 w8 ⟨rfl, rfl⟩
    go_wp2_with fail
    refine cV1.mono ?_
    rintro e8 w8 ⟨rfl, rfl⟩
    go_wp2_with fail
    go_ret
    exact ⟨v, n, rfl, Nat.le_refl _, by omega, H.out, Turn.refl _ _ _⟩
  rw [if_neg q4]
  have c9 := cG 4 a b
  clear cG cN
  go_enter Try.func115, Try.ntmps115
  go_wp2_with fail
  refine cV0.mono ?_
  rintro e8 w8 ⟨rfl, rfl⟩
  go_wp2_with fail
  refine cV0.mono ?_
  rintro e8 w8 ⟨rfl, rfl⟩
  go_wp2_with fail
  refine cV1.mono ?_
  rintro e8 w8 ⟨rfl, rfl⟩
  go_wp2_with fail
  refine cV1.mono ?_
  rintro e8 w8 ⟨rfl, rfl⟩
  go_wp2_with fail
  refine c9.mono ?_
  rintro e9 w1 ⟨v', n', rfl, h1, h2, h3, h4⟩
  have C := Lib.hid (And.intro h3 h4)
  clear h3 h4 c9
  go_wp2_with fail
  go_ret
  exact ⟨v', n', rfl, h1, h2, C.out.1, C.out.2⟩
end Go.Proofs.Ytegdlegndgdgiaa
