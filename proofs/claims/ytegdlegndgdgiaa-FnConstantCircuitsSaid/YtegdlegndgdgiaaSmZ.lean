/- Simplification in plain numbers: a product and a sum of constants. No condition. -/
import Derived.Test.YtegdlegndgdgiaaProg
import Derived.Test.YtegdlegndgdgiaaCwL
import Derived.Test.YtegdlegndgdgiaaS1
import Derived.Test.YtegdlegndgdgiaaSmS
namespace Go.Proofs.Ytegdlegndgdgiaa
open Go Go.RowKit
/-- Two constants multiplied, and the first added. -/
theorem Two.mulAdd {a b : Int} {z us ws : List Int} (h : Two a b z us ws) (ha : 0 ≤ a ∧ a ≤ 15) (hb : 0 ≤ b ∧ b ≤ 15) (hn : NoIn z) :
    (wMul z 8 [] us ws).1.length = 42 * 3 ∧ (wMul z 8 [] us ws).2.length = 4 ∧ Gives (wAdd (wMul z 8 [] us ws).1 42 [] (wMul z 8 [] us ws).2 us).1 (wAdd (wMul z 8 [] us ws).1 42 [] (wMul z 8 [] us ws).2 us).2 60 16 ((a * b + a) % 16) ∧ ∀ i, i < 60 → gk (wAdd (wMul z 8 [] us ws).1 42 [] (wMul z 8 [] us ws).2 us).1 i ≠ 1 := by
  rw [show wMul z 8 [] us ws = mulAt z us ws 3 from if_pos h.can]
  have n1 := hn.mul (us := us) (bs := ws) 3
  obtain ⟨g, hl, hw⟩ := mulAt_grw h.len h.wu h.ww h.lu h.lw 3 (by omega)
  obtain ⟨s, ss, l, hs, hv, e⟩ := mulAt_val h.len h.vu h.vw (bitsL_bit a 4) (bitsL_bit b 4) h.lu h.lw 3 (by omega)
  have e42 : 8 + mulN 3 = 42 := by decide
  have e13 : mulC 3 = 13 := by decide
  rw [e42] at g hw hv s
  rw [e13] at g
  rw [num4 ha, List.take_of_length_le (by rw [bitsL_length]; omega), num4 hb] at e
  have vu := h.vu.step s
  have c13 := g.and_
  rw [h.and_] at c13
  have ok := g.ok h.ok
  have wu := h.wu.mono g.le
  have lz := g.len
  refine ⟨lz, hl, ?_⟩
  have hc : canB14 (mulAt z us ws 3).1 42 [] (mulAt z us ws 3).2 us := ⟨⟨⟨by omega, ok, fun x hx => by simp at hx⟩, by omega⟩, ⟨hl, hw.ok⟩, ⟨h.lu, wu.ok⟩⟩
  rw [show wAdd (mulAt z us ws 3).1 42 [] (mulAt z us ws 3).2 us = sumA (mulAt z us ws 3).1 (mulAt z us ws 3).2 us 0 3 from if_pos hc]
  have n2 := n1.sum (us := (mulAt z us ws 3).2) (bs := us) 0 3
  obtain ⟨g2, hl2, hw2⟩ := sumA_grw lz hw wu (f := 0) (by unfold isBit; omega) (m := 3) hl h.lu
  obtain ⟨_, ss2, l2, hs2, hv2, e2⟩ := sumA_val lz hv vu hs (bitsL_bit a 4) (f := 0) (by unfold isBit; omega) (m := 3) hl h.lu
  obtain ⟨e3, e4⟩ := built_ev (g2.ok ok) (by omega) hw2 hv2 bits80
  refine ⟨⟨g2.len, hl2, ⟨ss2, e3, e4, l2, hs2, ?_⟩, by rw [g2.and_, c13]⟩, n2.at_ g2.len⟩
  rw [e2, e, num4 ha]
  generalize a * b = p
  omega
/-- Optimized: two constants at most, and the same number. -/
theorem opt_mulAdd {a b : Int} {z us ws : List Int} (h : Two a b z us ws) (ha : 0 ≤ a ∧ a ≤ 15) (hb : 0 ≤ b ∧ b ≤ 15) (hn : NoIn z) {y os : List Int} (hy : wAdd (wMul z 8 [] us ws).1 42 [] (wMul z 8 [] us ws).2 us = (y, os)) :
    y.length = 60 * 3 ∧ os.length = 4 ∧ optN y 60 os ≤ 2 ∧ (∀ p, p < optN y 60 os → gk (optZ y 60 os) p = 2) ∧ ∃ xs, evOk (optZ y 60 os) (optN y 60 os) (optO y 60 os) (List.replicate 80 0) ∧ evC (optZ y 60 os) (optN y 60 os) (optO y 60 os) (List.replicate 80 0) = xs ∧ xs.length = 4 ∧ allBit xs ∧ numB xs = (a * b + a) % 16 := by
  obtain ⟨_, _, G, hk⟩ := h.mulAdd ha hb hn
  rw [hy] at G hk
  obtain ⟨xs, x1, x2, x3, x4, x5⟩ := G.ev
  obtain ⟨o1, o2⟩ := opt_const x1.1 hk
  obtain ⟨p1, p2, _⟩ := opt_all x1.1
  exact ⟨G.len, G.lu, o1, o2, xs, ⟨p1, x1.2⟩, (p2 _).trans x2, x3, x4, x5⟩
theorem noIn_two (a b : Int) : NoIn (constAt (constAt [] a 4).1 b 4).1 := (NoIn.nil.const a 4).const b 4
end Go.Proofs.Ytegdlegndgdgiaa
