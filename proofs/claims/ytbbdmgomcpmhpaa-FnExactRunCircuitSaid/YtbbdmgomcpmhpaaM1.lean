/- Compilation in plain numbers: bits of inputs, words of bits, the circuit of a program, and what it computes. No condition. And what goes with it. -/
import Derived.Test.YtbbdmgomcpmhpaaProg
import Derived.Test.YtbbdmgomcpmhpaaW1
import Derived.Test.YtbbdmgomcpmhpaaCX1
import Derived.Test.YtbbdmgomcpmhpaaR1
namespace Go.Proofs.Ytbbdmgomcpmhpaa
open Go Go.RowKit
theorem outV_valsC {z bs us xs : List Int} {n : Nat} (h : Vals z bs n us xs) : outV (wv z bs n) us = xs := by
  apply List.ext_getElem?
  intro i
  by_cases hi : i < us.length
  · have e := (h.2 i hi).2.2
    have hx : i < xs.length := by rw [← h.1]; exact hi
    rw [outV, List.getElem?_map, List.getElem?_eq_getElem hi, List.getElem?_eq_getElem hx]
    simp only [Option.map_some]
    rw [List.getD_eq_getElem?_getD (l := us), List.getElem?_eq_getElem hi, List.getD_eq_getElem?_getD (l := xs), List.getElem?_eq_getElem hx] at e
    simp only [Option.getD_some] at e
    rw [e]
  · have hx : ¬ i < xs.length := by rw [← h.1]; exact hi
    rw [List.getElem?_eq_none (by rw [outV_length]; omega), List.getElem?_eq_none (by omega)]
/-- Evaluating a circuit whose outputs have known values. -/
theorem built_evC {z bs us xs : List Int} {n : Nat} (g : gatesOk z n) (hn : n ≤ 6000) (hw : Wrs n us) (hv : Vals z bs n us xs) (hb : bitsOk bs) : evOk z n us bs ∧ evC z n us bs = xs := by
  have h : evOk z n us bs := ⟨⟨hn, g, hw.ok⟩, hb⟩
  exact ⟨h, by rw [evC, if_pos h, outV_valsC hv]⟩
theorem num4C {a : Int} (h : 0 ≤ a ∧ a ≤ 15) : numB (bitsL a 4) = a := by rw [numB_bitsL]; omega
theorem bits_inj4 {a b : Int} (ha : 0 ≤ a ∧ a ≤ 15) (hb : 0 ≤ b ∧ b ≤ 15) : bitsL a 4 = bitsL b 4 ↔ a = b := ⟨fun h => by rw [← num4C ha, ← num4C hb, h], fun h => by rw [h]⟩
/-- The bits of all inputs, one behind the other. -/
def inB (I : List (List Int)) : List Int := (List.range 80).map fun i => (I.getD (i / 16) []).getD (i / 4 % 4) 0 / 2 ^ (i % 4) % 2
theorem inB_length (I : List (List Int)) : (inB I).length = 80 := by simp [inB]
theorem inB_get (I : List (List Int)) {i : Nat} (h : i < 80) : (inB I).getD i 0 = (I.getD (i / 16) []).getD (i / 4 % 4) 0 / 2 ^ (i % 4) % 2 := by
  simp only [inB, List.getD_eq_getElem?_getD, List.getElem?_map, List.getElem?_range h, Option.map_some, Option.getD_some]
theorem inB_at (I : List (List Int)) {p m k : Nat} (hp : p < 5) (hm : m < 4) (hk : k < 4) : (inB I).getD ((p * 4 + m) * 4 + k) 0 = (I.getD p []).getD m 0 / 2 ^ k % 2 := by
  rw [inB_get I (by omega), show ((p * 4 + m) * 4 + k) / 16 = p by omega, show ((p * 4 + m) * 4 + k) / 4 % 4 = m by omega, show ((p * 4 + m) * 4 + k) % 4 = k by omega]
theorem inB_bit (I : List (List Int)) : allBit (inB I) := fun x hx => by
  obtain ⟨i, _, rfl⟩ := List.mem_map.1 hx
  unfold isBit
  omega
theorem inB_ok (I : List (List Int)) : bitsOk (inB I) := ⟨inB_length I, inB_bit I⟩
theorem bitsL_four (v : Int) : bitsL v 4 = [v / 2 ^ 0 % 2, v / 2 ^ 1 % 2, v / 2 ^ 2 % 2, v / 2 ^ 3 % 2] := rfl
theorem words4_bits {v : Int} (h : 0 ≤ v ∧ v ≤ 15) (l : List Int) : words4 (bitsL v 4 ++ l) = v :: words4 l := by
  rw [bitsL_four]
  simp only [List.cons_append, List.nil_append, words4_app]
  congr 1
  simp
  omega
/-- Words as bits, one behind the other. -/
def flatB (vs : List Int) : List Int := match vs with
  | [] => []
  | v :: vs => bitsL v 4 ++ flatB vs
theorem flatB_app (a b : List Int) : flatB (a ++ b) = flatB a ++ flatB b := by
  induction a with
  | nil => rfl
  | cons v a ih => simp [flatB, ih]
theorem flatB_length (vs : List Int) : (flatB vs).length = 4 * vs.length := by
  induction vs with
  | nil => rfl
  | cons v vs ih => simp only [flatB, List.length_append, bitsL_length, ih, List.length_cons]; omega
theorem flatB_bit (vs : List Int) : allBit (flatB vs) := by
  induction vs with
  | nil => exact fun x hx => by simp [flatB] at hx
  | cons v vs ih => exact (bitsL_bit v 4).app ih
theorem words_flat {vs : List Int} (h : all4 vs) : wordsI (flatB vs) = vs := by
  rw [wordsI, if_pos ⟨by rw [flatB_length]; omega, flatB_bit vs⟩]
  induction vs with
  | nil => rfl
  | cons v vs ih =>
    rw [flatB, words4_bits (h v (by simp)), ih (fun z hz => h z (by simp [hz]))]
theorem bits_of {ss : List Int} (l : ss.length = 4) (h : allBit ss) : ss = bitsL (numB ss) 4 := by
  match ss, l with
  | [a, b, c, d], _ =>
    have ha := h a (by simp)
    have hb := h b (by simp)
    have hc := h c (by simp)
    have hd := h d (by simp)
    rcases ha.or with rfl | rfl <;> rcases hb.or with rfl | rfl <;> rcases hc.or with rfl | rfl <;> rcases hd.or with rfl | rfl <;> decide
/-- The circuit of plain statements: gates and outputs. -/
def cmpAll (ss : List St) (z : List Int) (rg : List (List Int)) (os : List Int) (zero : Int) : List Int × List Int := match ss with
  | [] => (z, os)
  | s :: ss => if s.op = 11 then cmpAll ss z rg (os ++ rg.getD s.a.toNat []) zero else cmpAll ss (wordG z rg zero s.op s.a s.b s.c s.n).1 (rg.set s.d.toNat (wordG z rg zero s.op s.a s.b s.c s.n).2) os zero
/-- Where a compilation begins: the word of all registers, and its first wire. -/
def cz : List Int := (constAt [] 0 4).1
def cw : List Int := (constAt [] 0 4).2
theorem cw_is : cw = [0, 1, 2, 3] := by decide
def cmpI (ss : List St) : List Int × List Int := if unrI ss then cmpAll (unrollL ss) cz (List.replicate 8 cw) [] 0 else ([], [])
theorem cmpAll_step {ss : List St} {k : Nat} (hk : k < ss.length) {op d a b c n : Int} (e : ss.getD k s0 = ⟨op, d, a, b, c, n⟩) (z : List Int) (rg : List (List Int)) (os : List Int) (zero : Int) :
    cmpAll (ss.drop k) z rg os zero = if op = 11 then cmpAll (ss.drop (k + 1)) z rg (os ++ rg.getD a.toNat []) zero else cmpAll (ss.drop (k + 1)) (wordG z rg zero op a b c n).1 (rg.set d.toNat (wordG z rg zero op a b c n).2) os zero := by
  rw [drop_at hk e]; rfl
/-- Gates, outputs and words behind a statement. -/
def stZ (z : List Int) (rg : List (List Int)) (op a b c n : Int) : List Int := if op = 11 then z else (wordG z rg 0 op a b c n).1
def stO (os : List Int) (rg : List (List Int)) (op a : Int) : List Int := if op = 11 then os ++ rg.getD a.toNat [] else os
def stR (z : List Int) (rg : List (List Int)) (op d a b c n : Int) : List (List Int) := if op = 11 then rg else rg.set d.toNat (wordG z rg 0 op a b c n).2
/-- Where the walk over the statements stands: k of them are compiled. -/
structure CmpAt (ss : List St) (k : Nat) (z os : List Int) (rg : List (List Int)) : Prop where
  rest : cmpAll ss cz (List.replicate 8 cw) [] 0 = cmpAll (ss.drop k) z rg os 0
  outs : os.length ≤ 4 * k
theorem CmpAt.start (ss : List St) : CmpAt ss 0 cz [] (List.replicate 8 cw) := ⟨by rw [List.drop_zero], by simp⟩
theorem CmpAt.step {ss : List St} {k : Nat} {z os : List Int} {rg : List (List Int)} (h : CmpAt ss k z os rg) (hk : k < ss.length) {op d a b c n : Int} (e : ss.getD k s0 = ⟨op, d, a, b, c, n⟩) (hr : op = 11 → (rg.getD a.toNat []).length = 4) :
    CmpAt ss (k + 1) (stZ z rg op a b c n) (stO os rg op a) (stR z rg op d a b c n) := by
  refine ⟨?_, ?_⟩
  · rw [h.rest, cmpAll_step hk e]
    unfold stZ stO stR
    by_cases h11 : op = 11
    · simp only [if_pos h11]
    · simp only [if_neg h11]
  · have := h.outs
    unfold stO
    by_cases h11 : op = 11
    · rw [if_pos h11, List.length_append, hr h11]
      omega
    · rw [if_neg h11]
      omega
theorem CmpAt.done {ss : List St} {z os : List Int} {rg : List (List Int)} (h : CmpAt ss ss.length z os rg) : cmpAll ss cz (List.replicate 8 cw) [] 0 = (z, os) := by
  rw [h.rest, List.drop_length]
  rfl
theorem cmpAll_end (ss : List St) (z : List Int) (rg : List (List Int)) (os : List Int) (zero : Int) : cmpAll (ss.drop ss.length) z rg os zero = (z, os) := by rw [List.drop_length]; rfl
section
variable {z us ws : List Int} {n : Nat} {I : List (List Int)}
theorem bitsAt_grw {q : Int} (hq : q = 3 ∨ q = 4) (hz : z.length = n * 3) (hU : Wrs n us) (hW : Wrs n ws) : ∀ m, m ≤ us.length → m ≤ ws.length → (∃ c, Grw z n (bitsAt z q us ws m).1 (n + m) c) ∧ (bitsAt z q us ws m).2.length = m ∧ Wrs (n + m) (bitsAt z q us ws m).2 := by
  intro m
  induction m with
  | zero => exact fun _ _ => ⟨⟨0, Grw.refl hz⟩, rfl, Wrs.nil _⟩
  | succ m ih =>
    intro h1 h2
    obtain ⟨⟨c, g⟩, hl, hs⟩ := ih (by omega) (by omega)
    have gk : gateOk q (us.getD m 0) (ws.getD m 0) (n + m : Nat) := .inr (.inr (.inl ⟨hq, (hU m (by omega)).mono g.le, (hW m (by omega)).mono g.le⟩))
    exact ⟨⟨_, g.put gk⟩, by simp [bitsAt, hl], (hs.mono (by omega)).snoc (nG_wr g.len)⟩
theorem inAt_grw {m : Nat} (hm : m < 20) (hz : z.length = n * 3) : ∀ k, k ≤ 4 → (∃ c, Grw z n (inAt z (m : Int) k).1 (n + k) c) ∧ (inAt z (m : Int) k).2.length = k ∧ Wrs (n + k) (inAt z (m : Int) k).2 := by
  intro k
  induction k with
  | zero => exact fun _ => ⟨⟨0, Grw.refl hz⟩, rfl, Wrs.nil _⟩
  | succ k ih =>
    intro h
    obtain ⟨⟨c, g⟩, hl, hs⟩ := ih (by omega)
    have gk : gateOk 1 ((m : Int) * 4 + k) 0 (n + k : Nat) := .inl ⟨rfl, by omega, rfl⟩
    exact ⟨⟨_, g.put gk⟩, by simp [inAt, hl], (hs.mono (by omega)).snoc (nG_wr g.len)⟩
theorem bit_mod {v : Int} {i : Nat} : isBit (v / 2 ^ i % 2) := by unfold isBit; omega
theorem bitsL_at (v : Int) {i m : Nat} (h : i < m) : (bitsL v m).getD i 0 = v / 2 ^ i % 2 := by
  simp only [bitsL, List.getD_eq_getElem?_getD, List.getElem?_map, List.getElem?_range h, Option.map_some, Option.getD_some]
theorem inAt_val {p m : Nat} (hp : p < 5) (hm : m < 4) (hz : z.length = n * 3) : ∀ k, k ≤ 4 → Step (inB I) z n (inAt z ((p * 4 + m : Nat) : Int) k).1 (n + k) ∧ Vals (inAt z ((p * 4 + m : Nat) : Int) k).1 (inB I) (n + k) (inAt z ((p * 4 + m : Nat) : Int) k).2 (bitsL ((I.getD p []).getD m 0) k) := by
  intro k
  induction k with
  | zero => exact fun _ => ⟨Step.refl _ hz, Vals.nil _ _ _⟩
  | succ k ih =>
    intro h
    obtain ⟨st, hv⟩ := ih (by omega)
    refine ⟨st.put _ _ _, ?_⟩
    rw [bitsL_succ]
    refine (hv.step ((Step.refl _ st.len).put 1 _ 0)).snoc ((Val.new 1 _ 0 st.len).is ?_)
    rw [gval, if_pos rfl, show (((p * 4 + m : Nat) : Int) * 4 + (k : Int)).toNat = (p * 4 + m) * 4 + k by omega]
    exact inB_at I hp hm (by omega)
theorem bitsAt_val {q x y : Int} (f : Int → Int → Int) (hq : (q = 3 ∧ f = fun s t => if s = t then 0 else 1) ∨ (q = 4 ∧ f = fun s t => s * t)) (hz : z.length = n * 3) (hU : Vals z (inB I) n us (bitsL x 4)) (hW : Vals z (inB I) n ws (bitsL y 4)) (lu : us.length = 4) (lw : ws.length = 4) : ∀ m, m ≤ 4 →
    Step (inB I) z n (bitsAt z q us ws m).1 (n + m) ∧ Vals (bitsAt z q us ws m).1 (inB I) (n + m) (bitsAt z q us ws m).2 ((List.range m).map fun i => f (x / 2 ^ i % 2) (y / 2 ^ i % 2)) := by
  intro m
  induction m with
  | zero => exact fun _ => ⟨Step.refl _ hz, Vals.nil _ _ _⟩
  | succ m ih =>
    intro h
    obtain ⟨st, hv⟩ := ih (by omega)
    have v1 := (hU.step st).2 m (by omega)
    have v2 := (hW.step st).2 m (by omega)
    rw [bitsL_at x (by omega)] at v1
    rw [bitsL_at y (by omega)] at v2
    refine ⟨st.put _ _ _, ?_⟩
    rw [List.range_succ, List.map_append, List.map_cons, List.map_nil]
    refine (hv.step ((Step.refl _ st.len).put q _ _)).snoc ?_
    rcases hq with ⟨rfl, rfl⟩ | ⟨rfl, rfl⟩
    · exact v1.xor v2 st.len
    · exact v1.and v2 st.len
end
theorem and_fin : ∀ a b : Fin 16, ((List.range 4).map fun i => ((a.val : Int) / 2 ^ i % 2) * ((b.val : Int) / 2 ^ i % 2)) = bitsL (bits .and .i64 (a.val : Int) (b.val : Int)) 4 := by decide +kernel
theorem xor_fin : ∀ a b : Fin 16, ((List.range 4).map fun i => if ((a.val : Int) / 2 ^ i % 2) = ((b.val : Int) / 2 ^ i % 2) then (0 : Int) else 1) = bitsL (bits .xor .i64 (a.val : Int) (b.val : Int)) 4 := by decide +kernel
theorem and_bits {a b : Int} (ha : 0 ≤ a ∧ a ≤ 15) (hb : 0 ≤ b ∧ b ≤ 15) : ((List.range 4).map fun i => (a / 2 ^ i % 2) * (b / 2 ^ i % 2)) = bitsL (bits .and .i64 a b) 4 := by
  have h := and_fin ⟨a.toNat, by omega⟩ ⟨b.toNat, by omega⟩
  simpa only [Int.toNat_of_nonneg ha.1, Int.toNat_of_nonneg hb.1] using h
theorem xor_bits {a b : Int} (ha : 0 ≤ a ∧ a ≤ 15) (hb : 0 ≤ b ∧ b ≤ 15) : ((List.range 4).map fun i => if (a / 2 ^ i % 2) = (b / 2 ^ i % 2) then (0 : Int) else 1) = bitsL (bits .xor .i64 a b) 4 := by
  have h := xor_fin ⟨a.toNat, by omega⟩ ⟨b.toNat, by omega⟩
  simpa only [Int.toNat_of_nonneg ha.1, Int.toNat_of_nonneg hb.1] using h
theorem oper_fin : ∀ a b : Fin 16, operI 3 (a.val : Int) (b.val : Int) = ((a.val : Int) + b.val) % 16 ∧ operI 4 (a.val : Int) (b.val : Int) = ((a.val : Int) - b.val) % 16 ∧ operI 5 (a.val : Int) (b.val : Int) = (a.val : Int) * b.val % 16 := by decide +kernel
theorem oper_is {a b : Int} (ha : 0 ≤ a ∧ a ≤ 15) (hb : 0 ≤ b ∧ b ≤ 15) : operI 3 a b = (a + b) % 16 ∧ operI 4 a b = (a - b) % 16 ∧ operI 5 a b = a * b % 16 := by
  have h := oper_fin ⟨a.toNat, by omega⟩ ⟨b.toNat, by omega⟩
  simpa only [Int.toNat_of_nonneg ha.1, Int.toNat_of_nonneg hb.1] using h
theorem odd_fin : ∀ a : Fin 16, (bits .and .i64 (a.val : Int) 1 = 1) ↔ (a.val : Int) % 2 = 1 := by decide +kernel
theorem odd_is {a : Int} (ha : 0 ≤ a ∧ a ≤ 15) : (bits .and .i64 a 1 = 1) ↔ a % 2 = 1 := by
  have h := odd_fin ⟨a.toNat, by omega⟩
  simpa only [Int.toNat_of_nonneg ha.1] using h
end Go.Proofs.Ytbbdmgomcpmhpaa

namespace Go.Proofs.Ytbbdmgomcpmhpaa
open Go Go.RowKit
theorem gSetEq {α : Type} {l : List α} {k : Nat} {x d : α} (h : k < l.length) : (l.set k x).getD k d = x := by
  rw [List.getD_eq_getElem?_getD, List.getElem?_set_self h]
  rfl
theorem gSetNe {α : Type} {l : List α} {k i : Nat} {x d : α} (h : k ≠ i) : (l.set k x).getD i d = l.getD i d := by
  rw [List.getD_eq_getElem?_getD, List.getElem?_set_ne h, ← List.getD_eq_getElem?_getD]
/-- A word of wires with the bits of a number. -/
structure Word4 (I : List (List Int)) (z : List Int) (n : Nat) (us : List Int) (v : Int) : Prop where
  len : us.length = 4
  wr : Wrs n us
  val : Vals z (inB I) n us (bitsL v 4)
/-- The circuit on its way, beside the state of the program. -/
structure Sim (I : List (List Int)) (z : List Int) (n : Nat) (rg : List (List Int)) (rs : List Int) : Prop where
  len : z.length = n * 3
  ok : gatesOk z n
  lr : rg.length = 8
  sr : rs.length = 8
  four : all4 rs
  w : ∀ i, i < 8 → Word4 I z n (rg.getD i []) (rs.getD i 0)
  zero : Val z (inB I) n 0 0
section
variable {I : List (List Int)} {z z' : List Int} {n n' : Nat} {us : List Int} {v : Int}
theorem Word4.step (h : Word4 I z n us v) (s : Step (inB I) z n z' n') (e : n ≤ n') : Word4 I z' n' us v := ⟨h.len, h.wr.mono e, h.val.step s⟩
theorem Word4.is {u : Int} (h : Word4 I z n us v) (e : v = u) : Word4 I z n us u := e ▸ h
/-- A word whose bits say a number. -/
theorem Word4.num {ss : List Int} (hl : us.length = 4) (hw : Wrs n us) (hv : Vals z (inB I) n us ss) (l : ss.length = 4) (hb : allBit ss) (e : numB ss = v) : Word4 I z n us v := ⟨hl, hw, by rw [← e, ← bits_of l hb]; exact hv⟩
theorem Val.wr {x : Int} {u : Int} {bs : List Int} (h : Val z bs n u x) : Wr n u := ⟨h.1, h.2.1⟩
/-- A word of one bit and three zeros. -/
theorem Word4.bit {u x : Int} (h : Val z (inB I) n u x) (hz : Val z (inB I) n 0 0) (hx : x = 0 ∨ x = 1) : Word4 I z n [u, 0, 0, 0] x := by
  refine ⟨rfl, ((((Wrs.nil n).snoc h.wr).snoc hz.wr).snoc hz.wr).snoc hz.wr, ?_⟩
  have hv := ((((Vals.nil z (inB I) n).snoc h).snoc hz).snoc hz).snoc hz
  have e : bitsL x 4 = [x, 0, 0, 0] := by rcases hx with rfl | rfl <;> decide
  rw [e]
  exact hv
/-- What a statement's gates compute. -/
structure Gate4 (I : List (List Int)) (z : List Int) (n : Nat) (r : List Int × List Int) (v : Int) : Prop where
  go : ∃ n', Step (inB I) z n r.1 n' ∧ n ≤ n' ∧ n' ≤ n + 34 ∧ (gatesOk z n → gatesOk r.1 n') ∧ Word4 I r.1 n' r.2 v
end
theorem word_sim {I : List (List Int)} {z : List Int} {m : Nat} {rg : List (List Int)} {rs : List Int} {op d a b c n : Int} (h : Sim I z m rg rs) (hok : okI op d a b c n) (h10 : op ≤ 10) : Gate4 I z m (wordG z rg 0 op a b c n) (valI rs I op a b c n) := by
  have reg : ∀ x : Int, isReg x → Word4 I z m (rg.getD x.toNat []) (rs.getD x.toNat 0) ∧ 0 ≤ rs.getD x.toNat 0 ∧ rs.getD x.toNat 0 ≤ 15 := fun x hx => ⟨h.w x.toNat (by unfold isReg at hx; omega), h.four.at_ _⟩
  have hop : op = 1 ∨ op = 2 ∨ (3 ≤ op ∧ op ≤ 9) ∨ op = 10 := by unfold okI at hok; omega
  rcases hop with rfl | rfl | h39 | rfl
  · obtain ⟨g, hl, hw⟩ := constAt_grw (z := z) n h.len 4
    obtain ⟨s, hv⟩ := constAt_val (bs := inB I) n h.len 4
    exact ⟨⟨m + 4, s, by omega, by omega, g.ok, ⟨hl, hw, hv⟩⟩⟩
  · have ha : 0 ≤ a ∧ a ≤ 4 ∧ 0 ≤ n ∧ n ≤ 3 := by unfold okI at hok; omega
    obtain ⟨p, rfl⟩ := Int.eq_ofNat_of_zero_le ha.1
    obtain ⟨q, rfl⟩ := Int.eq_ofNat_of_zero_le ha.2.2.1
    have e : wordG z rg 0 2 (p : Int) b c (q : Int) = inAt z ((p * 4 + q : Nat) : Int) 4 := by
      unfold wordG
      rw [if_neg (by omega), if_pos rfl, show (p : Int) * 4 + (q : Int) = ((p * 4 + q : Nat) : Int) by omega]
    have e2 : valI rs I 2 (p : Int) b c (q : Int) = (I.getD p []).getD q 0 := by
      unfold valI
      rw [if_neg (by omega), if_pos rfl]
      rfl
    rw [e, e2]
    obtain ⟨⟨k, g⟩, hl, hw⟩ := inAt_grw (z := z) (m := p * 4 + q) (by omega) h.len 4 (by omega)
    obtain ⟨s, hv⟩ := inAt_val (I := I) (p := p) (m := q) (by omega) (by omega) h.len 4 (by omega)
    exact ⟨⟨m + 4, s, by omega, by omega, g.ok, ⟨hl, hw, hv⟩⟩⟩
  · have hab : isReg a ∧ isReg b := by unfold okI isReg at hok; unfold isReg; omega
    obtain ⟨A, ra⟩ := reg a hab.1
    obtain ⟨B, rb⟩ := reg b hab.2
    have ov := oper_is ra rb
    have hab8 := operI_in (op := op) ra rb
    have bA := bitsL_bit (rs.getD a.toNat 0) 4
    have bB := bitsL_bit (rs.getD b.toNat 0) 4
    have ev : valI rs I op a b c n = operI op (rs.getD a.toNat 0) (rs.getD b.toNat 0) := by
      unfold valI
      rw [if_neg (by omega), if_neg (by omega), if_neg (by omega)]
    rw [ev]
    unfold wordG
    rw [if_neg (by omega), if_neg (by omega)]
    generalize rg.getD a.toNat [] = us at *
    generalize rg.getD b.toNat [] = ws at *
    generalize rs.getD a.toNat 0 = x at *
    generalize rs.getD b.toNat 0 = y at *
    rcases (show op = 3 ∨ op = 4 ∨ op = 5 ∨ op = 6 ∨ op = 7 ∨ op = 8 ∨ op = 9 by omega) with rfl | rfl | rfl | rfl | rfl | rfl | rfl
    · rw [if_pos rfl]
      obtain ⟨g, hl, hw⟩ := sumA_grw h.len A.wr B.wr (f := 0) (by unfold isBit; omega) (m := 3) A.len B.len
      obtain ⟨s, ss, l, hb, hv, e⟩ := sumA_val h.len A.val B.val bA bB (f := 0) (by unfold isBit; omega) (m := 3) A.len B.len
      exact ⟨⟨_, s, g.le, by omega, g.ok, Word4.num hl hw hv l hb (by rw [e, num4C ra, num4C rb, ov.1]; omega)⟩⟩
    · rw [if_neg (by omega), if_pos rfl]
      obtain ⟨g0, hl0, hw0⟩ := notsAt_grw h.len B.wr 4 (by have := B.len; omega)
      obtain ⟨g, hl, hw⟩ := sumA_grw g0.len (A.wr.mono g0.le) hw0 (f := 1) (by unfold isBit; omega) (m := 3) A.len hl0
      obtain ⟨s, ss, l, hb, hv, e⟩ := sub_val h.len A.val B.val bA bB A.len B.len
      exact ⟨⟨_, s, (g0.trans g).le, by omega, (g0.trans g).ok, Word4.num hl hw hv l hb (by rw [e, num4C ra, num4C rb, ov.2.1])⟩⟩
    · rw [if_neg (by omega), if_neg (by omega), if_pos rfl]
      obtain ⟨g, hl, hw⟩ := mulAt_grw h.len A.wr B.wr A.len B.len 3 (by omega)
      obtain ⟨s, ss, l, hb, hv, e⟩ := mulAt_val h.len A.val B.val bA bB A.len B.len 3 (by omega)
      have e34 : mulN 3 = 34 := by decide
      rw [e34] at g hw s hv
      exact ⟨⟨_, s, g.le, by omega, g.ok, Word4.num hl hw hv l hb (by rw [e, num4C ra, List.take_of_length_le (by rw [bitsL_length]; omega), num4C rb, ov.2.2])⟩⟩
    · rw [if_neg (by omega), if_neg (by omega), if_neg (by omega), if_pos rfl]
      obtain ⟨⟨k, g⟩, hl, hw⟩ := bitsAt_grw (q := 4) (.inr rfl) h.len A.wr B.wr 4 (by have := A.len; omega) (by have := B.len; omega)
      obtain ⟨s, hv⟩ := bitsAt_val (fun s t => s * t) (.inr ⟨rfl, rfl⟩) h.len A.val B.val A.len B.len 4 (by omega)
      refine ⟨⟨_, s, g.le, by omega, g.ok, ⟨hl, hw, ?_⟩⟩⟩
      rw [hab8, if_neg (by omega), if_neg (by omega), if_neg (by omega), if_pos rfl, ← and_bits ra rb]
      exact hv
    · rw [if_neg (by omega), if_neg (by omega), if_neg (by omega), if_neg (by omega), if_pos rfl]
      obtain ⟨⟨k, g⟩, hl, hw⟩ := bitsAt_grw (q := 3) (.inl rfl) h.len A.wr B.wr 4 (by have := A.len; omega) (by have := B.len; omega)
      obtain ⟨s, hv⟩ := bitsAt_val (fun s t => if s = t then 0 else 1) (.inl ⟨rfl, rfl⟩) h.len A.val B.val A.len B.len 4 (by omega)
      refine ⟨⟨_, s, g.le, by omega, g.ok, ⟨hl, hw, ?_⟩⟩⟩
      rw [hab8, if_neg (by omega), if_neg (by omega), if_neg (by omega), if_neg (by omega), if_pos rfl, ← xor_bits ra rb]
      exact hv
    · rw [if_neg (by omega), if_neg (by omega), if_neg (by omega), if_neg (by omega), if_neg (by omega), if_pos rfl]
      obtain ⟨g, _⟩ := lessA_grw h.len A.wr B.wr A.len B.len
      obtain ⟨s, hv⟩ := less_val h.len A.val B.val bA bB A.len B.len
      rw [num4C ra, num4C rb] at hv
      exact ⟨⟨_, s, g.le, by omega, g.ok, (Word4.bit hv (s.keep _ _ h.zero) (by split <;> omega)).is (hab8.trans (by simp)).symm⟩⟩
    · rw [if_neg (by omega), if_neg (by omega), if_neg (by omega), if_neg (by omega), if_neg (by omega), if_neg (by omega), if_pos rfl]
      obtain ⟨g, _⟩ := equalA_grw h.len A.wr B.wr A.len B.len
      obtain ⟨s, hv⟩ := equal_val h.len A.val B.val A.len B.len
      have hE : (if bitsL x 4 = bitsL y 4 then (1 : Int) else 0) = if x = y then 1 else 0 := by
        by_cases e : x = y
        · rw [if_pos e, if_pos ((bits_inj4 ra rb).2 e)]
        · rw [if_neg e, if_neg (fun q => e ((bits_inj4 ra rb).1 q))]
      rw [hE] at hv
      exact ⟨⟨_, s, g.le, by omega, g.ok, (Word4.bit hv (s.keep _ _ h.zero) (by split <;> omega)).is (hab8.trans (by simp)).symm⟩⟩
  · have hab : isReg a ∧ isReg b ∧ isReg c := by unfold okI isReg at hok; unfold isReg; omega
    obtain ⟨A, ra⟩ := reg a hab.1
    obtain ⟨B, rb⟩ := reg b hab.2.1
    obtain ⟨C, rc⟩ := reg c hab.2.2
    have ev : valI rs I 10 a b c n = if bits .and .i64 (rs.getD a.toNat 0) 1 = 1 then rs.getD b.toNat 0 else rs.getD c.toNat 0 := by
      unfold valI
      rw [if_neg (by omega), if_neg (by omega), if_pos rfl]
    have eg : wordG z rg 0 10 a b c n = muxAt z ((rg.getD a.toNat []).getD 0 0) (rg.getD b.toNat []) (rg.getD c.toNat []) 4 := by
      unfold wordG
      rw [if_neg (by omega), if_neg (by omega), if_neg (by omega), if_neg (by omega), if_neg (by omega), if_neg (by omega), if_neg (by omega), if_neg (by omega), if_neg (by omega)]
    rw [ev, eg]
    have v0 := A.val.2 0 (by have := A.len; omega)
    rw [bitsL_at _ (by omega)] at v0
    obtain ⟨g, hl, hw⟩ := muxAt_grw h.len (A.wr 0 (by have := A.len; omega)) B.wr C.wr 4 (by have := B.len; omega) (by have := C.len; omega)
    obtain ⟨s, hv⟩ := muxAt_val h.len v0 (by unfold isBit; omega) B.val C.val (bitsL_bit _ 4) (bitsL_bit _ 4) 4 (by have := B.len; omega) (by have := C.len; omega)
    refine ⟨⟨_, s, g.le, by omega, g.ok, ⟨hl, hw, ?_⟩⟩⟩
    rw [List.take_of_length_le (by rw [bitsL_length]; omega), List.take_of_length_le (by rw [bitsL_length]; omega)] at hv
    have ho := odd_is ra
    by_cases e : bits .and .i64 (rs.getD a.toNat 0) 1 = 1
    · rw [if_pos e]
      have e2 := ho.1 e
      rw [if_pos (by simpa using e2)] at hv
      exact hv
    · rw [if_neg e]
      have e2 : ¬ rs.getD a.toNat 0 % 2 = 1 := fun q => e (ho.2 q)
      rw [if_neg (by simpa using e2)] at hv
      exact hv
/-- Outputs whose wires have the bits of numbers. -/
structure Outs4 (I : List (List Int)) (z : List Int) (n : Nat) (os vs : List Int) : Prop where
  wr : Wrs n os
  val : Vals z (inB I) n os (flatB vs)
theorem sim_set {I : List (List Int)} {z : List Int} {m : Nat} {rg : List (List Int)} {rs : List Int} {r : List Int × List Int} {v d : Int} (h : Sim I z m rg rs) (hd : isReg d) (hv : 0 ≤ v ∧ v ≤ 15) (g : Gate4 I z m r v) :
    ∃ m', m ≤ m' ∧ m' ≤ m + 34 ∧ Step (inB I) z m r.1 m' ∧ Sim I r.1 m' (rg.set d.toNat r.2) (rs.set d.toNat v) := by
  obtain ⟨m', s, h1, h2, h3, hw⟩ := g.go
  have hdn : d.toNat < 8 := by unfold isReg at hd; omega
  refine ⟨m', h1, h2, s, ⟨s.len, h3 h.ok, by rw [List.length_set]; exact h.lr, by rw [List.length_set]; exact h.sr, h.four.set _ hv, fun i hi => ?_, s.keep _ _ h.zero⟩⟩
  by_cases e : d.toNat = i
  · subst e
    rw [gSetEq (by rw [h.lr]; exact hdn), gSetEq (by rw [h.sr]; exact hdn)]
    exact hw
  · rw [gSetNe e, gSetNe e]
    exact (h.w i hi).step s h1
/-- The compilation of valid plain statements. -/
theorem cmp_sim {I : List (List Int)} (hi : insOk I) : ∀ (ss : List St), (∀ s ∈ ss, s.ok ∧ s.op ≤ 11) → ∀ {z : List Int} {m : Nat} {rg : List (List Int)} {rs os vs : List Int}, Sim I z m rg rs → Outs4 I z m os vs → all4 vs →
    ∃ m', m ≤ m' ∧ m' ≤ m + 34 * ss.length ∧ (cmpAll ss z rg os 0).1.length = m' * 3 ∧ gatesOk (cmpAll ss z rg os 0).1 m' ∧ Outs4 I (cmpAll ss z rg os 0).1 m' (cmpAll ss z rg os 0).2 (runAll ss rs vs I).2 := by
  intro ss
  induction ss with
  | nil => exact fun _ z m rg rs os vs h o _ => ⟨m, by omega, by omega, h.len, h.ok, o⟩
  | cons s ss ih =>
    intro hok z m rg rs os vs h o h4
    obtain ⟨hs, h11⟩ := hok s (List.mem_cons_self)
    have hrest := fun t ht => hok t (List.mem_cons_of_mem _ ht)
    have gs : goes rs vs I s.op s.d s.a s.b s.c s.n := ⟨hs, ⟨h.sr, h.four, h4⟩, hi⟩
    simp only [cmpAll, runAll, List.length_cons]
    by_cases e : s.op = 11
    · rw [if_pos e, stepR_no (fun q => by omega), stepO_yes gs e]
      have ha : isReg s.a := by have h1 : okI s.op s.d s.a s.b s.c s.n := hs; unfold okI isReg at h1; unfold isReg; omega
      have w := h.w s.a.toNat (by unfold isReg at ha; omega)
      have hv4 : all4 (vs ++ [rs.getD s.a.toNat 0]) := h4.app (all4.one (h.four.at_ _))
      obtain ⟨m', h1, h2, h3, h5, h6⟩ := ih hrest h (os := os ++ rg.getD s.a.toNat []) (vs := vs ++ [rs.getD s.a.toNat 0]) ⟨o.wr.app w.wr, by rw [flatB_app]; exact o.val.app (by simpa [flatB] using w.val)⟩ hv4
      exact ⟨m', h1, by omega, h3, h5, h6⟩
    · have h10 : s.op ≤ 10 := by omega
      rw [if_neg e, stepR_yes gs h10, stepO_no (fun q => e q.2)]
      have hd : isReg s.d := by have h1 : okI s.op s.d s.a s.b s.c s.n := hs; unfold okI isReg at h1; unfold isReg; omega
      obtain ⟨m1, k1, k2, st, hsim⟩ := sim_set h hd (val_four hs h10 ⟨h.sr, h.four, h4⟩ hi) (word_sim h hs h10)
      obtain ⟨m', h1, h2, h3, h5, h6⟩ := ih hrest hsim (os := os) (vs := vs) ⟨o.wr.mono k1, o.val.step st⟩ h4
      exact ⟨m', by omega, by omega, h3, h5, h6⟩
theorem rep_at {α : Type} {x d : α} {k i : Nat} (h : i < k) : (List.replicate k x).getD i d = x := by
  rw [List.getD_eq_getElem?_getD, List.getElem?_replicate, if_pos h]
  rfl
theorem sim_start (I : List (List Int)) : Sim I cz 4 (List.replicate 8 cw) (List.replicate 8 0) := by
  have h0 : ([] : List Int).length = 0 * 3 := rfl
  obtain ⟨g, hl, hw⟩ := constAt_grw 0 h0 4
  obtain ⟨s, hv⟩ := constAt_val (bs := inB I) 0 h0 4
  have v0 := hv.2 0 (by rw [hl]; omega)
  refine ⟨g.len, g.ok (fun i hi => by omega), by simp, by simp, all4.zeros 8, fun i hi => ?_, ?_⟩
  · rw [rep_at (x := cw) hi, rep_at (x := (0 : Int)) hi]
    exact ⟨hl, hw, hv⟩
  · exact v0.is (by decide)
/-- The circuit of a program computes its outputs. -/
theorem cmp_runs {ss : List St} {I : List (List Int)} (h : runOk ss I) (hok : ∀ s ∈ unrollL ss, s.ok ∧ s.op ≤ 11) : ∃ m, m ≤ 4084 ∧ (cmpI ss).1.length = m * 3 ∧ cirOk (cmpI ss).1 m (cmpI ss).2 ∧ (cmpI ss).2.length = 4 * (runI ss I).length ∧ evOk (cmpI ss).1 m (cmpI ss).2 (inB I) ∧ evC (cmpI ss).1 m (cmpI ss).2 (inB I) = flatB (runI ss I) := by
  have hl := h.1.2
  obtain ⟨m, h1, h2, h3, h4, h5⟩ := cmp_sim h.2 (unrollL ss) hok (sim_start I) (os := []) (vs := []) ⟨Wrs.nil _, Vals.nil _ _ _⟩ all4.nil
  have e : cmpI ss = cmpAll (unrollL ss) cz (List.replicate 8 cw) [] 0 := if_pos h.1
  have e2 : runI ss I = (runAll (unrollL ss) (List.replicate 8 0) [] I).2 := if_pos h
  rw [e, e2]
  obtain ⟨k1, k2⟩ := built_evC h4 (by omega) h5.wr h5.val (inB_ok I)
  exact ⟨m, by omega, h3, k1.1, by rw [h5.val.1, flatB_length], k1, k2⟩
end Go.Proofs.Ytbbdmgomcpmhpaa

namespace Go.Proofs.Ytbbdmgomcpmhpaa
open Go Go.RowKit
theorem flatB_at (vs : List Int) : ∀ i, i < 4 * vs.length → (flatB vs).getD i 0 = vs.getD (i / 4) 0 / 2 ^ (i % 4) % 2 := by
  induction vs with
  | nil => exact fun i h => by simp at h
  | cons v vs ih =>
    intro i h
    rw [flatB]
    by_cases h4 : i < 4
    · rw [List.getD_eq_getElem?_getD, List.getElem?_append_left (by rw [bitsL_length]; exact h4), ← List.getD_eq_getElem?_getD, bitsL_at v h4, show i / 4 = 0 by omega, show i % 4 = i by omega]
      rfl
    · rw [List.getD_eq_getElem?_getD, List.getElem?_append_right (by rw [bitsL_length]; omega), bitsL_length, ← List.getD_eq_getElem?_getD, ih (i - 4) (by simp at h; omega), show i / 4 = (i - 4) / 4 + 1 by omega, show i % 4 = (i - 4) % 4 by omega]
      rfl
/-- All inputs, one behind the other. -/
def allI (I : List (List Int)) : List Int := (List.range 20).map fun i => (I.getD (i / 4) []).getD (i % 4) 0
theorem allI_length (I : List (List Int)) : (allI I).length = 20 := by simp [allI]
theorem allI_get (I : List (List Int)) {i : Nat} (h : i < 20) : (allI I).getD i 0 = (I.getD (i / 4) []).getD (i % 4) 0 := by
  simp only [allI, List.getD_eq_getElem?_getD, List.getElem?_map, List.getElem?_range h, Option.map_some, Option.getD_some]
theorem allI_at (I : List (List Int)) {p m : Nat} (hp : p < 5) (hm : m < 4) : (allI I).getD (p * 4 + m) 0 = (I.getD p []).getD m 0 := by
  rw [allI_get I (by omega), show (p * 4 + m) / 4 = p by omega, show (p * 4 + m) % 4 = m by omega]
theorem allI_four {I : List (List Int)} (h : insOk I) : all4 (allI I) := fun x hx => by
  obtain ⟨i, hi, rfl⟩ := List.mem_map.1 hx
  have hi := List.mem_range.1 hi
  exact (h.row (k := i / 4) (by omega)).2.at_ _
theorem inB_flat (I : List (List Int)) : inB I = flatB (allI I) := by
  apply List.ext_getElem?
  intro i
  by_cases hi : i < 80
  · have h1 : i < (inB I).length := by rw [inB_length]; exact hi
    have h2 : i < (flatB (allI I)).length := by rw [flatB_length, allI_length]; exact hi
    have e1 := inB_get I hi
    have e2 := flatB_at (allI I) i (by rw [allI_length]; exact hi)
    rw [allI_get I (by omega), show i / 4 / 4 = i / 16 by omega] at e2
    rw [List.getD_eq_getElem?_getD, List.getElem?_eq_getElem h1] at e1
    rw [List.getD_eq_getElem?_getD, List.getElem?_eq_getElem h2] at e2
    rw [List.getElem?_eq_getElem h1, List.getElem?_eq_getElem h2]
    simp only [Option.getD_some] at e1 e2
    rw [e1, e2]
  · rw [List.getElem?_eq_none (by rw [inB_length]; omega), List.getElem?_eq_none (by rw [flatB_length, allI_length]; omega)]
theorem words_in {I : List (List Int)} (h : insOk I) : wordsI (inB I) = allI I := by rw [inB_flat, words_flat (allI_four h)]
/-- The bits of inputs: none where they are not valid. -/
def bitsI (I : List (List Int)) : List Int := if insOk I then inB I else []
theorem evC_bit {z os bs : List Int} {n : Nat} (h : evOk z n os bs) : allBit (evC z n os bs) := by
  rw [evC, if_pos h]
  intro x hx
  obtain ⟨o, _, rfl⟩ := List.mem_map.1 hx
  exact (wv_bit h.1.2.1 h.2.2 n (Nat.le_refl _)).at_ _
theorem runI_four (ss : List St) (I : List (List Int)) : all4 (runI ss I) := by
  unfold runI
  split
  · exact (runAll_ok (unrollL ss) stOk.start).2.2
  · exact all4.nil
/-- Running a circuit. -/
def runsC (z : List Int) (n : Nat) (os : List Int) (I : List (List Int)) : Prop := os.length % 4 = 0 ∧ insOk I ∧ evOk z n os (inB I)
instance (z : List Int) (n : Nat) (os : List Int) (I : List (List Int)) : Decidable (runsC z n os I) := by unfold runsC; infer_instance
def runC (z : List Int) (n : Nat) (os : List Int) (I : List (List Int)) : List Int := if runsC z n os I then words4 (evC z n os (inB I)) else []
theorem runC_yes {z os : List Int} {n : Nat} {I : List (List Int)} (h : runsC z n os I) : runC z n os I = words4 (evC z n os (inB I)) ∧ bitsI I = inB I ∧ wordsI (evC z n os (inB I)) = words4 (evC z n os (inB I)) := by
  refine ⟨if_pos h, if_pos h.2.1, if_pos ⟨?_, ?_⟩⟩
  · rw [evC, if_pos h.2.2, outV_length]
    exact h.1
  · exact evC_bit h.2.2
theorem plain_ok {ss : List St} (h : unrI ss) : ∀ s ∈ unrollL ss, s.ok ∧ s.op ≤ 11 := fun s hs => by
  have h1 := unroll_ok h.1 s hs
  have h2 := unroll_plain ss s hs
  refine ⟨h1, ?_⟩
  have h3 : okI s.op s.d s.a s.b s.c s.n := h1
  unfold okI at h3
  omega
/-- A program's circuit runs to its outputs. -/
theorem cmp_run {ss : List St} {I : List (List Int)} (h : runOk ss I) : ∃ m, m ≤ 4084 ∧ (cmpI ss).1.length = m * 3 ∧ cirOk (cmpI ss).1 m (cmpI ss).2 ∧ (cmpI ss).2.length = 4 * outs (unrollL ss) ∧ runsC (cmpI ss).1 m (cmpI ss).2 I ∧ runC (cmpI ss).1 m (cmpI ss).2 I = runI ss I := by
  obtain ⟨m, h1, h2, h3, h4, h5, h6⟩ := cmp_runs h (plain_ok h.1)
  have hr : runsC (cmpI ss).1 m (cmpI ss).2 I := ⟨by omega, h.2, h5⟩
  refine ⟨m, h1, h2, h3, by rw [h4, runI_outs h], hr, ?_⟩
  have hw := words_flat (runI_four ss I)
  rw [← h6, (runC_yes hr).2.2] at hw
  rw [(runC_yes hr).1, hw]
/-- A program's circuit is valid and of bounded size. -/
theorem cmp_size {ss : List St} (h : unrI ss) : ∃ m, m ≤ 4084 ∧ (cmpI ss).1.length = m * 3 ∧ cirOk (cmpI ss).1 m (cmpI ss).2 ∧ (cmpI ss).2.length ≤ 480 := by
  have hz : insOk (List.replicate 5 [0, 0, 0, 0]) := by decide
  obtain ⟨m, h1, h2, h3, h4, _⟩ := cmp_runs ⟨h, hz⟩ (plain_ok h)
  have := runI_length ss (List.replicate 5 [0, 0, 0, 0])
  exact ⟨m, h1, h2, h3, by omega⟩
theorem cmp_none {ss : List St} (h : ¬ unrI ss) : cmpI ss = ([], []) := if_neg h
end Go.Proofs.Ytbbdmgomcpmhpaa
