/- Circuit builders: the contracts of stage 14's exact laws. No condition. -/
import Derived.Test.YtegdlegndgdgiaaProg
import Derived.Test.YtegdlegndgdgiaaCwAdd
import Derived.Test.YtegdlegndgdgiaaCwSub
import Derived.Test.YtegdlegndgdgiaaCwMul
import Derived.Test.YtegdlegndgdgiaaCwLess
import Derived.Test.YtegdlegndgdgiaaCwEqual
import Derived.Test.YtegdlegndgdgiaaCwMux
import Derived.Test.YtegdlegndgdgiaaCwConst
import Derived.Test.YtegdlegndgdgiaaCwS1
import Derived.Test.YtegdlegndgdgiaaCwS2
import Derived.Test.YtegdlegndgdgiaaCwS3
import Derived.Test.YtegdlegndgdgiaaCwS4
namespace Go.Proofs.Ytegdlegndgdgiaa
open Go Go.RowKit
theorem Wrs.of_ok {n : Nat} {us : List Int} (h : wiresOk us n) : Wrs n us := fun _ hi => h _ (gD_mem hi)
section
variable {z : List Int} {n : Nat} (os us ws : List Int) (hz : z.length = n * 3) (hn : n ≤ 1048576)
include hz hn
theorem wAdd_len : (wAdd z n os us ws).1.length ≤ 5700000 ∧ (wAdd z n os us ws).2.length ≤ 1900000 := by
  unfold wAdd
  split
  · rename_i h
    obtain ⟨g, hl, _⟩ := sumA_grw hz (Wrs.of_ok h.2.1.2) (Wrs.of_ok h.2.2.2) (f := 0) (by unfold isBit; omega) (m := 3) h.2.1.1 h.2.2.1
    have := g.len
    have := h.1.2
    omega
  · exact ⟨by show z.length ≤ _; omega, by simp⟩
theorem wSub_len : (wSub z n os us ws).1.length ≤ 5700000 ∧ (wSub z n os us ws).2.length ≤ 1900000 := by
  unfold wSub
  split
  · rename_i h
    obtain ⟨g0, hl0, hs0⟩ := notsAt_grw hz (Wrs.of_ok h.2.2.2) 4 (by have := h.2.2.1; omega)
    obtain ⟨g, hl, _⟩ := sumA_grw g0.len ((Wrs.of_ok h.2.1.2).mono g0.le) hs0 (f := 1) (by unfold isBit; omega) (m := 3) h.2.1.1 hl0
    have := g.len
    have := h.1.2
    omega
  · exact ⟨by show z.length ≤ _; omega, by simp⟩
theorem wMul_len : (wMul z n os us ws).1.length ≤ 5700000 ∧ (wMul z n os us ws).2.length ≤ 1900000 := by
  unfold wMul
  split
  · rename_i h
    obtain ⟨g, hl, _⟩ := mulAt_grw hz (Wrs.of_ok h.2.1.2) (Wrs.of_ok h.2.2.2) h.2.1.1 h.2.2.1 3 (by omega)
    have := g.len
    have := h.1.2
    have e : mulN 3 = 34 := by decide
    omega
  · exact ⟨by show z.length ≤ _; omega, by simp⟩
theorem wLess_len : (wLess z n os us ws).1.length ≤ 5700000 := by
  unfold wLess
  split
  · rename_i h
    obtain ⟨g, _⟩ := lessA_grw hz (Wrs.of_ok h.2.1.2) (Wrs.of_ok h.2.2.2) h.2.1.1 h.2.2.1
    have := g.len
    have := h.1.2
    omega
  · show z.length ≤ _; omega
theorem wEqual_len : (wEqual z n os us ws).1.length ≤ 5700000 := by
  unfold wEqual
  split
  · rename_i h
    obtain ⟨g, _⟩ := equalA_grw hz (Wrs.of_ok h.2.1.2) (Wrs.of_ok h.2.2.2) h.2.1.1 h.2.2.1
    have := g.len
    have := h.1.2
    omega
  · show z.length ≤ _; omega
theorem wMux_len (s : Int) : (wMux z n os s us ws).1.length ≤ 5700000 ∧ (wMux z n os s us ws).2.length ≤ 1900000 := by
  unfold wMux
  split
  · rename_i h
    obtain ⟨g, hl, _⟩ := muxAt_grw hz h.2 (Wrs.of_ok h.1.2.1.2) (Wrs.of_ok h.1.2.2.2) 4 (by have := h.1.2.1.1; omega) (by have := h.1.2.2.1; omega)
    have := g.len
    have := h.1.1.2
    omega
  · exact ⟨by show z.length ≤ _; omega, by simp⟩
end
theorem wConst_len {z : List Int} {n : Nat} (os : List Int) (N : Int) (hz : z.length = n * 3) (hn : n ≤ 1048576) : (wConst z n os N).1.length ≤ 5700000 ∧ (wConst z n os N).2.length ≤ 1900000 := by
  unfold wConst
  split
  · rename_i h
    obtain ⟨g, hl, _⟩ := constAt_grw (z := z) N hz 4
    have := g.len
    have := h.1.2
    omega
  · exact ⟨by show z.length ≤ _; omega, by simp⟩
end Go.Proofs.Ytegdlegndgdgiaa
