/- Circuit builders in plain numbers: comparing and choosing two constants. No condition. -/
import Derived.Test.YtegdlegndgdgiaaProg
import Derived.Test.YtegdlegndgdgiaaCwL
namespace Go.Proofs.Ytegdlegndgdgiaa
open Go Go.RowKit
theorem Vals.cons {z bs us xs : List Int} {n : Nat} {u x : Int} (h : Vals z bs n us xs) (k : Val z bs n u x) : Vals z bs n (u :: us) (x :: xs) := by
  refine ⟨by simp [h.1], fun i hi => ?_⟩
  cases i with
  | zero => exact k
  | succ i => exact h.2 i (by simpa using hi)
theorem Wrs.cons {n : Nat} {us : List Int} {u : Int} (h : Wrs n us) (k : Wr n u) : Wrs n (u :: us) := fun i hi => by
  cases i with
  | zero => exact k
  | succ i => exact h i (by simpa using hi)
theorem bits_inj {a b : Int} (ha : 0 ≤ a ∧ a ≤ 15) (hb : 0 ≤ b ∧ b ≤ 15) : bitsL a 4 = bitsL b 4 ↔ a = b := ⟨fun h => by rw [← num4 ha, ← num4 hb, h], fun h => by rw [h]⟩
/-- The circuit that compares two constants and chooses the lesser one. -/
structure Cmp (a b : Int) (z us ws : List Int) (zl : List Int) (l : Int) (ze : List Int) (e : Int) (zm ms : List Int) : Prop where
  less : wLess z 8 [] us ws = (zl, l)
  equal : wEqual zl 34 [] us ws = (ze, e)
  mux : wMux ze 45 [] l us ws = (zm, ms)
  ll : zl.length = 34 * 3
  le_ : ze.length = 45 * 3
  lm : zm.length = 57 * 3
  lms : ms.length = 4
  l0 : 0 ≤ l
  e0 : 0 ≤ e
  ev : ∃ xs, evOk zm 57 (l :: e :: ms) (List.replicate 80 0) ∧ evC zm 57 (l :: e :: ms) (List.replicate 80 0) = (if a < b then 1 else 0) :: (if a = b then 1 else 0) :: xs ∧ xs.length = 4 ∧ allBit xs ∧ numB xs = min a b
theorem Two.cmp {a b : Int} {z us ws : List Int} (h : Two a b z us ws) (ha : 0 ≤ a ∧ a ≤ 15) (hb : 0 ≤ b ∧ b ≤ 15) : ∃ zl l ze e zm ms, Cmp a b z us ws zl l ze e zm ms := by
  obtain ⟨g1, r1⟩ := lessA_grw h.len h.wu h.ww h.lu h.lw
  obtain ⟨s1, v1⟩ := less_val h.len h.vu h.vw (bitsL_bit a 4) (bitsL_bit b 4) h.lu h.lw
  have ok1 := g1.ok h.ok
  have wu1 := h.wu.mono g1.le
  have ww1 := h.ww.mono g1.le
  have vu1 := h.vu.step s1
  have vw1 := h.vw.step s1
  have can1 : canB14 (lessA z us ws).1 34 [] us ws := ⟨⟨⟨by omega, ok1, fun x hx => by simp at hx⟩, by omega⟩, ⟨h.lu, wu1.ok⟩, ⟨h.lw, ww1.ok⟩⟩
  obtain ⟨g2, r2⟩ := equalA_grw g1.len wu1 ww1 h.lu h.lw
  obtain ⟨s2, v2⟩ := equal_val s1.len vu1 vw1 h.lu h.lw
  have ok2 := g2.ok ok1
  have wu2 := wu1.mono g2.le
  have ww2 := ww1.mono g2.le
  have vu2 := vu1.step s2
  have vw2 := vw1.step s2
  have l2 := s2.keep _ _ v1
  have rl2 := r1.mono g2.le
  have can2 : canB14 (equalA (lessA z us ws).1 us ws).1 45 [] us ws := ⟨⟨⟨by omega, ok2, fun x hx => by simp at hx⟩, by omega⟩, ⟨h.lu, wu2.ok⟩, ⟨h.lw, ww2.ok⟩⟩
  obtain ⟨g3, hl3, r3⟩ := muxAt_grw g2.len rl2 wu2 ww2 4 (by have := h.lu; omega) (by have := h.lw; omega)
  have hc : isBit (if numB (bitsL a 4) < numB (bitsL b 4) then (1 : Int) else 0) := by split <;> (unfold isBit; omega)
  obtain ⟨s3, v3⟩ := muxAt_val s2.len l2 hc vu2 vw2 (bitsL_bit a 4) (bitsL_bit b 4) 4 (by have := h.lu; omega) (by have := h.lw; omega)
  have ok3 := g3.ok ok2
  have l3 := s3.keep _ _ l2
  have e3 := s3.keep _ _ v2
  rw [num4 ha, num4 hb] at l3 v3
  rw [List.take_of_length_le (by rw [bitsL_length]; omega), List.take_of_length_le (by rw [bitsL_length]; omega)] at v3
  have hE : (if bitsL a 4 = bitsL b 4 then (1 : Int) else 0) = if a = b then 1 else 0 := by
    by_cases e : a = b
    · rw [if_pos e, if_pos ((bits_inj ha hb).2 e)]
    · rw [if_neg e, if_neg (fun x => e ((bits_inj ha hb).1 x))]
  rw [hE] at e3
  obtain ⟨e1, e2⟩ := built_ev ok3 (by omega) ((r3.cons (r2.mono g3.le)).cons (rl2.mono g3.le)) ((v3.cons e3).cons l3) bits80
  refine ⟨_, _, _, _, _, _, ⟨if_pos h.can, if_pos can1, if_pos ⟨can2, rl2⟩, g1.len, g2.len, g3.len, hl3, r1.1, r2.1, ⟨_, e1, e2, ?_, ?_, ?_⟩⟩⟩
  · split <;> exact bitsL_length _ _
  · split <;> exact bitsL_bit _ _
  · by_cases e : a < b
    · rw [if_pos e, if_pos rfl, num4 ha]; omega
    · rw [if_neg e, if_neg (by omega), num4 hb]; omega
end Go.Proofs.Ytegdlegndgdgiaa
