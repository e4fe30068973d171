/- What the laws about polynomial shares share. -/
import Derived.Test.YtcjgoonkdjaccaaProg
import Derived.Test.YtcjgoonkdjaccaaPolyZ
import Derived.Test.YtcjgoonkdjaccaaPolyX
import Derived.Test.YtcjgoonkdjaccaaFieldW
import Derived.Test.YtcjgoonkdjaccaaTapeD
import Derived.Test.YtcjgoonkdjaccaaShareU
import Derived.Test.YtcjgoonkdjaccaaApp
namespace Go.Proofs.Ytcjgoonkdjaccaa
open Go Go.RowKit
theorem Ints.skip {w : World} {b o : Nat} {zs : List Int} (h : Ints w (some ⟨b, o, none⟩) zs) (f : Nat) : Ints w (some ⟨b, o + f, none⟩) (zs.drop f) := fun h0 => by
  rw [List.length_drop] at h0
  obtain ⟨b', o', e, hl, hc⟩ := h (by omega)
  injection e with e
  injection e with e1 e2
  subst e1 e2
  refine ⟨b, o + f, rfl, hl, fun j hj => ?_⟩
  rw [List.length_drop] at hj
  have := hc (f + j) (by omega)
  rw [Nat.add_assoc, this]
  simp [List.getD_eq_getElem?_getD]
theorem drop_take_at {l : List Int} {f m i : Nat} (h : i < m) : ((l.drop f).take m).getD i 0 = l.getD (f + i) 0 := by
  rw [take_at h]
  simp [List.getD_eq_getElem?_getD]
/-- Dealt shares open to the value: any successive ones that are enough. -/
theorem thr_open {p x s a : Int} {N K f : Nat} (hx : isEl p x) (hN : N ≤ 5) (hNp : (N : Int) < p) (hf : f + K + 1 ≤ N) :
    openP p (ptsN f (K + 1)) (((shN p (polyS p x s a K) N).drop f).take (K + 1)) = x := by
  have hl : (((shN p (polyS p x s a K) N).drop f).take (K + 1)).length = K + 1 := by rw [List.length_take, List.length_drop, shN_length]; omega
  have pl := ptsN_length f (K + 1)
  refine open_shares hx.1 (polyS_zero (s := s) (a := a) hx K) (pointsOk_iff.2 ⟨by omega, by omega, ptsN_el hx.1 (by omega), ⟨hx.1, fun y hy => (shN_el hx.1 _ N).2 y (List.mem_of_mem_drop (List.mem_of_mem_take hy))⟩, ptsN_distinct _ _, fun j hj => ?_⟩) (by rw [polyS_length, pl]; omega) (fun j hj => ?_)
  · rw [pl] at hj
    rw [ptsN_at hj]; omega
  · rw [pl] at hj
    rw [drop_take_at hj, ptsN_at hj, shN_at _ _ (show f + j < N by omega)]
    simp
theorem thr_cons {p x s a : Int} {N K : Nat} (hx : isEl p x) (hN : 1 ≤ N ∧ N ≤ 5) (hNp : (N : Int) < p) (hK : K < N) {k : Int} (hk : (K : Int) ≤ k) : consC p (shN p (polyS p x s a K) N) k := by
  refine cons_shares ⟨by rw [shN_length]; exact hN, by rw [shN_length]; exact hNp, shN_el hx.1 _ N, by omega⟩ ?_
  rw [polyS_length]
  unfold consM
  split <;> omega
theorem thr_at {p x : Int} (hx : isEl p x) (h3 : 3 < p) : polyI p [x] 3 = x := by
  rw [polyI_yes (fun y hy => by have : y = x := by simpa using hy
                                rw [this]; exact hx) ⟨hx.1, by omega, h3⟩]
  show (0 * 3 + x) % p = x
  rw [Int.zero_mul, Int.zero_add, hx.mod]
/-- The primes of the drawn laws. -/
def pr7 (p : Int) : Prop := p = 7 ∨ p = 11 ∨ p = 13 ∨ p = 97
theorem pr7.isP {p : Int} (h : pr7 p) : isP p := by
  rcases h with rfl | rfl | rfl | rfl <;> decide +kernel
theorem pr7.le {p : Int} (h : pr7 p) : 7 ≤ p ∧ p ≤ 97 := by unfold pr7 at h; omega
end Go.Proofs.Ytcjgoonkdjaccaa
