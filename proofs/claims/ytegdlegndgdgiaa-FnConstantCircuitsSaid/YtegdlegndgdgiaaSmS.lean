/- Circuits without inputs, in plain numbers: what the builders append. No condition. -/
import Derived.Test.YtegdlegndgdgiaaProg
import Derived.Test.YtegdlegndgdgiaaS1
namespace Go.Proofs.Ytegdlegndgdgiaa
open Go Go.RowKit
/-- Whole gates, none of them an input. -/
structure NoIn (z : List Int) : Prop where
  len : z.length % 3 = 0
  no : ∀ i, i < z.length / 3 → gk z i ≠ 1
theorem NoIn.nil : NoIn [] := ⟨rfl, fun i h => by simp at h⟩
theorem NoIn.put {z : List Int} (h : NoIn z) {k : Int} (a b : Int) (hk : k ≠ 1) : NoIn (putG z k a b) := by
  obtain ⟨n, hn⟩ : ∃ n, z.length / 3 = n := ⟨_, rfl⟩
  have hz : z.length = n * 3 := by have := h.len; omega
  have hl := putG_length k a b hz
  refine ⟨by omega, fun i hi => ?_⟩
  have hi2 : i < n + 1 := by omega
  obtain ⟨e1, _, _⟩ := gate_last k a b hz
  rcases Nat.lt_or_ge i n with h1 | h1
  · show gk (z ++ [k, a, b]) i ≠ 1
    rw [gk_left hz h1]
    exact h.no i (by omega)
  · have ei : i = n := by omega
    subst ei
    show gk (z ++ [k, a, b]) i ≠ 1
    rw [e1]
    exact hk
section
variable {z us bs : List Int}
theorem NoIn.const (h : NoIn z) (N : Int) : ∀ i, NoIn (constAt z N i).1 := by
  intro i
  induction i with
  | zero => exact h
  | succ i ih => exact ih.put _ _ (by omega)
theorem NoIn.full (h : NoIn z) (a b c : Int) : NoIn (fullA z a b c).1 := ((((h.put _ _ (by omega)).put _ _ (by omega)).put _ _ (by omega)).put _ _ (by omega)).put _ _ (by omega)
theorem NoIn.sumAt (h : NoIn z) (f : Int) : ∀ i, NoIn (sumAt z us bs f i).1 := by
  intro i
  induction i with
  | zero => exact h.put _ _ (by omega)
  | succ i ih => exact ih.full _ _ _
theorem NoIn.sum (h : NoIn z) (f : Int) (m : Nat) : NoIn (sumA z us bs f m).1 := ((h.sumAt f m).put _ _ (by omega)).put _ _ (by omega)
theorem NoIn.prod (h : NoIn z) (b : Int) : ∀ i, NoIn (prodAt z b us i).1 := by
  intro i
  induction i with
  | zero => exact h
  | succ i ih => exact ih.put _ _ (by omega)
theorem NoIn.mul (h : NoIn z) : ∀ i, NoIn (mulAt z us bs i).1 := by
  intro i
  induction i with
  | zero => exact h.prod _ _
  | succ i ih => exact (ih.prod _ _).sum _ _
end
theorem NoIn.at_ {z : List Int} {n : Nat} (h : NoIn z) (hz : z.length = n * 3) : ∀ i, i < n → gk z i ≠ 1 := fun i hi => h.no i (by omega)
end Go.Proofs.Ytegdlegndgdgiaa
