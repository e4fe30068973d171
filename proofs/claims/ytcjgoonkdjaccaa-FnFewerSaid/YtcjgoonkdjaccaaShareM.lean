/- Additive shares in plain numbers. No condition. -/
import Derived.Test.YtcjgoonkdjaccaaFieldS
import Derived.Test.YtcjgoonkdjaccaaTapeM
namespace Go.Proofs.Ytcjgoonkdjaccaa
open Go Go.RowKit
def shareOk (p x n s a : Int) : Prop := isEl p x ∧ (1 ≤ n ∧ n ≤ 5) ∧ isTape s a ∧ a ≤ 900000
instance (p x n s a : Int) : Decidable (shareOk p x n s a) := by unfold shareOk; infer_instance
def saN (p x s a : Int) (k : Nat) : List Int := tlN s a p k ++ [fsubI p x (fsumI p (tlN s a p k))]
def saI (p x n s a : Int) : List Int := if shareOk p x n s a then saN p x s a (n - 1).toNat else []
def saaI (p x n s a : Int) : Int := if shareOk p x n s a then a + (n - 1) else a
theorem saN_length (p x s a : Int) (k : Nat) : (saN p x s a k).length = k + 1 := by simp [saN, tlN_length]
theorem isP.bound {p : Int} (h : isP p) : isBound p := by have := h.range; unfold isBound; omega
theorem tlN_el {p s a : Int} (hp : isP p) (k : Nat) : allEl p (tlN s a p k) := by
  refine ⟨hp, fun x hx => ?_⟩
  obtain ⟨j, hj, rfl⟩ := List.mem_map.1 hx
  exact ⟨hp, redI_range hp.bound⟩
theorem sumN_append {p : Int} (xs ys : List Int) (k : Nat) (h : k ≤ xs.length) : sumN p (xs ++ ys) k = sumN p xs k := by
  induction k with
  | zero => rfl
  | succ k ih =>
    rw [sumN_next, sumN_next, ih (by omega)]
    congr 2
    rw [List.getD_eq_getElem?_getD, List.getElem?_append_left (by omega), ← List.getD_eq_getElem?_getD]
theorem fsum_snoc {p : Int} {xs : List Int} {x : Int} (h : allEl p xs) (hx : isEl p x) : fsumI p (xs ++ [x]) = (fsumI p xs + x) % p := by
  have h2 : allEl p (xs ++ [x]) := ⟨h.1, fun y hy => by
    rcases List.mem_append.1 hy with e | e
    · exact h.2 y e
    · simp at e; subst e; exact hx⟩
  rw [fsumI_yes h2, fsumI_yes h, List.length_append, List.length_singleton, sumN_next, sumN_append _ _ _ (Nat.le_refl _)]
  congr 2
  simp [List.getD_eq_getElem?_getD]
theorem fsum_el {p : Int} {xs : List Int} (h : allEl p xs) : isEl p (fsumI p xs) := by
  rw [fsumI_yes h]
  have := sumN_range p xs h.1.range.1 xs.length
  exact ⟨h.1, this⟩
theorem fsum_no_iff {p : Int} {xs : List Int} : fsumI p xs = -1 ↔ ¬ allEl p xs := by
  constructor
  · intro h hn
    have := (fsum_el hn).2.1
    omega
  · exact fsumI_no
theorem fsum_one {p : Int} {x : Int} : allEl p [x] ↔ isEl p x := by
  constructor
  · intro h; exact h.2 x (by simp)
  · intro h; exact ⟨h.1, by simp [h]⟩
theorem saN_el {p x s a : Int} (hx : isEl p x) (k : Nat) : allEl p (saN p x s a k) := by
  have h := tlN_el (s := s) (a := a) hx.1 k
  refine ⟨hx.1, fun y hy => ?_⟩
  rcases List.mem_append.1 hy with e | e
  · exact h.2 y e
  · simp at e; subst e; exact fsubI_el hx (fsum_el h)
theorem saN_sum {p x s a : Int} (hx : isEl p x) (k : Nat) : fsumI p (saN p x s a k) = x := by
  have h := tlN_el (s := s) (a := a) hx.1 k
  have hs := fsum_el h
  unfold saN
  rw [fsum_snoc h (fsubI_el hx hs)]
  have e := field_sub hx hs
  rw [faddI_yes (fsubI_el hx hs) hs, Int.add_comm] at e
  exact e
/-- The value of shares. -/
def openI (p : Int) (xs : List Int) : Int := if 1 ≤ xs.length ∧ xs.length ≤ 5 then fsumI p xs else -1
def addOk (p : Int) (xs ys : List Int) : Prop := xs.length = ys.length ∧ allEl p xs ∧ allEl p ys
instance (p : Int) (xs ys : List Int) : Decidable (addOk p xs ys) := by unfold addOk; infer_instance
def addN (p : Int) (xs ys : List Int) (k : Nat) : List Int := (List.range k).map fun i => faddI p (xs.getD i 0) (ys.getD i 0)
def addL (p : Int) (xs ys : List Int) : List Int := if addOk p xs ys then addN p xs ys xs.length else []
def sclOk (p k : Int) (xs : List Int) : Prop := isEl p k ∧ allEl p xs
instance (p k : Int) (xs : List Int) : Decidable (sclOk p k xs) := by unfold sclOk; infer_instance
def sclN (p k : Int) (xs : List Int) (n : Nat) : List Int := (List.range n).map fun i => fmulI p (xs.getD i 0) k
def sclL (p k : Int) (xs : List Int) : List Int := if sclOk p k xs then sclN p k xs xs.length else []
def addcL (p k : Int) (xs : List Int) : List Int := if 0 < xs.length ∧ sclOk p k xs then xs.set 0 (faddI p (xs.getD 0 0) k) else []
theorem addN_length (p : Int) (xs ys : List Int) (k : Nat) : (addN p xs ys k).length = k := by simp [addN]
theorem sclN_length (p c : Int) (xs : List Int) (k : Nat) : (sclN p c xs k).length = k := by simp [sclN]
theorem addN_next (p : Int) (xs ys : List Int) (k : Nat) : addN p xs ys (k + 1) = addN p xs ys k ++ [faddI p (xs.getD k 0) (ys.getD k 0)] := by simp [addN, List.range_succ]
theorem sclN_next (p c : Int) (xs : List Int) (k : Nat) : sclN p c xs (k + 1) = sclN p c xs k ++ [fmulI p (xs.getD k 0) c] := by simp [sclN, List.range_succ]
theorem addN_is (p : Int) (xs ys : List Int) (k : Nat) (z : Int) (h : faddI p (xs.getD k 0) (ys.getD k 0) = z) : addN p xs ys (k + 1) = addN p xs ys k ++ [z] := by
  rw [addN_next, h]
theorem sclN_is (p c : Int) (xs : List Int) (k : Nat) (z : Int) (h : fmulI p (xs.getD k 0) c = z) : sclN p c xs (k + 1) = sclN p c xs k ++ [z] := by
  rw [sclN_next, h]
theorem addL_length (p : Int) (xs ys : List Int) : (addL p xs ys).length ≤ xs.length := by
  unfold addL; split
  · rw [addN_length]; exact Nat.le_refl _
  · exact Nat.zero_le _
theorem sclL_length (p k : Int) (xs : List Int) : (sclL p k xs).length ≤ xs.length := by
  unfold sclL; split
  · rw [sclN_length]; exact Nat.le_refl _
  · exact Nat.zero_le _
theorem addcL_length (p k : Int) (xs : List Int) : (addcL p k xs).length ≤ xs.length := by
  unfold addcL; split
  · simp
  · exact Nat.zero_le _
theorem saI_length (p x n s a : Int) : (saI p x n s a).length ≤ 5 := by
  unfold saI; split
  · rename_i h
    rw [saN_length]
    have := h.2.1
    omega
  · exact Nat.zero_le _
end Go.Proofs.Ytcjgoonkdjaccaa
