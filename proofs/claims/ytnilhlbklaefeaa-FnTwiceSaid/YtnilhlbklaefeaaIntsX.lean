/- Marking a slice of ints of the call's own, and asking the marks. -/
import Derived.Test.YtnilhlbklaefeaaProg
import Derived.Test.YtnilhlbklaefeaaInts
namespace Go.Proofs.Ytnilhlbklaefeaa
open Go Go.RowKit
def markInts (k n : Nat) : List Int := (List.range n).map fun j => ((k + j : Nat) : Int)
theorem markInts_length (k n : Nat) : (markInts k n).length = n := by simp [markInts]
theorem markInts_at {k n j : Nat} (h : j < n) : (markInts k n).getD j 0 = ((k + j : Nat) : Int) := by simp [markInts, List.getD_eq_getElem?_getD, h]
theorem markInts_of {ys : List Value} {k n : Nat} (hl : ys.length = n) (h : ∀ j, j < n → ys[j]? = some (.int .i64 ((k + j : Nat) : Int))) : ys = intVals (markInts k n) := by
  apply List.ext_getElem?
  intro j
  rcases Nat.lt_or_ge j n with hj | hj
  · rw [h j hj]; simp [intVals, markInts, hj]
  · rw [List.getElem?_eq_none (by omega), List.getElem?_eq_none (by simp [intVals, markInts]; omega)]
theorem markInts_set {ys : List Value} {k n i : Nat} {u : Value} (hl : ys.length = n) (h : ∀ j, j < i → ys[j]? = some (.int .i64 ((k + j : Nat) : Int))) (hi : i < n) (hu : u = .int .i64 ((k + i : Nat) : Int)) :
    ∀ j, j < i + 1 → (ys.set i u)[j]? = some (.int .i64 ((k + j : Nat) : Int)) := by
  intro j hj
  rcases Nat.lt_or_ge j i with h' | h'
  · rw [List.getElem?_set_ne (by omega)]; exact h j h'
  · obtain rfl : j = i := by omega
    rw [List.getElem?_set_self (by omega), hu]
end Go.Proofs.Ytnilhlbklaefeaa
