/- Circuit builders in plain numbers: two constants, and what is computed of them. No condition. -/
import Derived.Test.YtegdlegndgdgiaaProg
import Derived.Test.YtegdlegndgdgiaaW1
import Derived.Test.YtegdlegndgdgiaaCwF
namespace Go.Proofs.Ytegdlegndgdgiaa
open Go Go.RowKit
theorem outV_vals {z bs us xs : List Int} {n : Nat} (h : Vals z bs n us xs) : outV (wv z bs n) us = xs := by
  apply List.ext_getElem?
  intro i
  by_cases hi : i < us.length
  · have e := (h.2 i hi).2.2
    have hx : i < xs.length := by rw [← h.1]; exact hi
    rw [outV, List.getElem?_map, List.getElem?_eq_getElem hi, List.getElem?_eq_getElem hx]
    simp only [Option.map_some]
    rw [List.getD_eq_getElem?_getD (l := us), List.getElem?_eq_getElem hi, List.getD_eq_getElem?_getD (l := xs), List.getElem?_eq_getElem hx] at e
    simp only [Option.getD_some] at e
    rw [e]
  · have hx : ¬ i < xs.length := by rw [← h.1]; exact hi
    rw [List.getElem?_eq_none (by rw [outV_length]; omega), List.getElem?_eq_none (by omega)]
/-- Evaluating a circuit whose outputs have known values. -/
theorem built_ev {z bs us xs : List Int} {n : Nat} (g : gatesOk z n) (hn : n ≤ 6000) (hw : Wrs n us) (hv : Vals z bs n us xs) (hb : bitsOk bs) : evOk z n us bs ∧ evC z n us bs = xs := by
  have h : evOk z n us bs := ⟨⟨hn, g, hw.ok⟩, hb⟩
  exact ⟨h, by rw [evC, if_pos h, outV_vals hv]⟩
theorem bits80 : bitsOk (List.replicate 80 0) := ⟨by simp, fun x hx => by have := List.eq_of_mem_replicate hx; subst this; unfold isBit; omega⟩
/-- Two constants in a circuit: their wires are words, with their values. -/
structure Two (a b : Int) (z us ws : List Int) : Prop where
  len : z.length = 8 * 3
  ok : gatesOk z 8
  and_ : cnt z 4 8 = 0
  lu : us.length = 4
  lw : ws.length = 4
  wu : Wrs 8 us
  ww : Wrs 8 ws
  vu : Vals z (List.replicate 80 0) 8 us (bitsL a 4)
  vw : Vals z (List.replicate 80 0) 8 ws (bitsL b 4)
theorem Two.of (a b : Int) : Two a b (constAt (constAt [] a 4).1 b 4).1 (constAt [] a 4).2 (constAt (constAt [] a 4).1 b 4).2 := by
  have h0 : ([] : List Int).length = 0 * 3 := rfl
  obtain ⟨g1, l1, w1⟩ := constAt_grw a h0 4
  obtain ⟨g2, l2, w2⟩ := constAt_grw b g1.len 4
  obtain ⟨s1, v1⟩ := constAt_val (bs := List.replicate 80 0) a h0 4
  obtain ⟨s2, v2⟩ := constAt_val (bs := List.replicate 80 0) b s1.len 4
  have g := g1.trans g2
  exact ⟨g.len, g.ok (fun i hi => by omega), by rw [g.and_]; rfl, l1, l2, w1.mono (by omega), w2, v1.step s2, v2⟩
section
variable {a b : Int} {z us ws : List Int}
theorem Two.can (h : Two a b z us ws) : canB14 z 8 [] us ws := ⟨⟨⟨by omega, h.ok, fun x hx => by simp at hx⟩, by omega⟩, ⟨h.lu, h.wu.ok⟩, ⟨h.lw, h.ww.ok⟩⟩
theorem canC_nil : canC14 [] 0 [] := ⟨⟨by omega, fun i hi => by omega, fun x hx => by simp at hx⟩, by omega⟩
theorem can_four (a : Int) : canC14 (constAt [] a 4).1 4 [] := by
  obtain ⟨g1, _, _⟩ := constAt_grw (z := []) (n := 0) a rfl 4
  exact ⟨⟨by omega, g1.ok (fun i hi => by omega), fun x hx => by simp at hx⟩, by omega⟩
theorem wConst_nil {a : Int} (h : 0 ≤ a ∧ a ≤ 15) : wConst [] 0 [] a = constAt [] a 4 := if_pos ⟨canC_nil, h⟩
theorem wConst_four {a b : Int} (h : 0 ≤ b ∧ b ≤ 15) : wConst (constAt [] a 4).1 4 [] b = constAt (constAt [] a 4).1 b 4 := if_pos ⟨can_four a, h⟩
/-- What a word's circuit gives: n gates, c and gates, a word whose number is r. -/
structure Gives (z' us' : List Int) (n c : Nat) (r : Int) : Prop where
  len : z'.length = n * 3
  lu : us'.length = 4
  ev : ∃ xs, evOk z' n us' (List.replicate 80 0) ∧ evC z' n us' (List.replicate 80 0) = xs ∧ xs.length = 4 ∧ allBit xs ∧ numB xs = r
  and_ : cnt z' 4 n = c
theorem num4 {a : Int} (h : 0 ≤ a ∧ a ≤ 15) : numB (bitsL a 4) = a := by rw [numB_bitsL]; omega
theorem Two.add (h : Two a b z us ws) (ha : 0 ≤ a ∧ a ≤ 15) (hb : 0 ≤ b ∧ b ≤ 15) : Gives (wAdd z 8 [] us ws).1 (wAdd z 8 [] us ws).2 26 3 ((a + b) % 16) := by
  rw [show wAdd z 8 [] us ws = sumA z us ws 0 3 from if_pos h.can]
  obtain ⟨g, hl, hw⟩ := sumA_grw h.len h.wu h.ww (f := 0) (by unfold isBit; omega) (m := 3) h.lu h.lw
  obtain ⟨_, ss, l, hs, hv, e⟩ := sumA_val h.len h.vu h.vw (bitsL_bit a 4) (bitsL_bit b 4) (f := 0) (by unfold isBit; omega) (m := 3) h.lu h.lw
  obtain ⟨e1, e2⟩ := built_ev (g.ok h.ok) (by omega) hw hv bits80
  refine ⟨g.len, hl, ⟨ss, e1, e2, l, hs, ?_⟩, by rw [g.and_, h.and_]⟩
  rw [e, num4 ha, num4 hb]
  omega
theorem Two.sub (h : Two a b z us ws) (ha : 0 ≤ a ∧ a ≤ 15) (hb : 0 ≤ b ∧ b ≤ 15) : Gives (wSub z 8 [] us ws).1 (wSub z 8 [] us ws).2 30 3 ((a - b) % 16) := by
  rw [show wSub z 8 [] us ws = sumA (notsAt z ws 4).1 us (notsAt z ws 4).2 1 3 from if_pos h.can]
  obtain ⟨g0, hl0, hw0⟩ := notsAt_grw h.len h.ww 4 (by have := h.lw; omega)
  obtain ⟨g, hl, hw⟩ := sumA_grw g0.len (h.wu.mono g0.le) hw0 (f := 1) (by unfold isBit; omega) (m := 3) h.lu hl0
  obtain ⟨_, ss, l, hs, hv, e⟩ := sub_val h.len h.vu h.vw (bitsL_bit a 4) (bitsL_bit b 4) h.lu h.lw
  have g2 := g0.trans g
  obtain ⟨e1, e2⟩ := built_ev (g2.ok h.ok) (by omega) hw hv bits80
  exact ⟨g.len, hl, ⟨ss, e1, e2, l, hs, by rw [e, num4 ha, num4 hb]⟩, by rw [g2.and_, h.and_]⟩
theorem Two.mul (h : Two a b z us ws) (ha : 0 ≤ a ∧ a ≤ 15) (hb : 0 ≤ b ∧ b ≤ 15) : Gives (wMul z 8 [] us ws).1 (wMul z 8 [] us ws).2 42 13 (a * b % 16) := by
  rw [show wMul z 8 [] us ws = mulAt z us ws 3 from if_pos h.can]
  obtain ⟨g, hl, hw⟩ := mulAt_grw h.len h.wu h.ww h.lu h.lw 3 (by omega)
  obtain ⟨_, ss, l, hs, hv, e⟩ := mulAt_val h.len h.vu h.vw (bitsL_bit a 4) (bitsL_bit b 4) h.lu h.lw 3 (by omega)
  have e42 : 8 + mulN 3 = 42 := by decide
  have e13 : mulC 3 = 13 := by decide
  rw [e42] at g hw hv
  rw [e13] at g
  obtain ⟨e1, e2⟩ := built_ev (g.ok h.ok) (by omega) hw hv bits80
  refine ⟨g.len, hl, ⟨ss, e1, e2, l, hs, ?_⟩, by rw [g.and_, h.and_]⟩
  rw [e, num4 ha, List.take_of_length_le (by rw [bitsL_length]; omega), num4 hb]
end
theorem and15_fin : ∀ x : Fin 31, bits BinOp.and IntKind.i64 ((x.val : Int) - 15) 15 = ((x.val : Int) - 15) % 16 := by decide +kernel
theorem and15 {x : Int} (h : -15 ≤ x ∧ x ≤ 15) : bits BinOp.and IntKind.i64 x 15 = x % 16 := by
  have h1 := and15_fin ⟨(x + 15).toNat, by omega⟩
  simp only at h1
  rw [show (((x + 15).toNat : Nat) : Int) - 15 = x by omega] at h1
  exact h1
end Go.Proofs.Ytegdlegndgdgiaa
