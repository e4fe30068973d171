/- Shares in plain numbers: sums, multiples and constants open to the right value. No condition. -/
import Derived.Test.YtcjgoonkdjaccaaShareM
namespace Go.Proofs.Ytcjgoonkdjaccaa
open Go Go.RowKit
theorem sum_add {p : Int} {xs ys zs : List Int} {n : Nat} (h : ∀ i, i < n → zs.getD i 0 = (xs.getD i 0 + ys.getD i 0) % p) : ∀ k, k ≤ n → sumN p zs k = (sumN p xs k + sumN p ys k) % p := by
  intro k
  induction k with
  | zero => intro _; simp [sumN]
  | succ k ih =>
    intro hk
    rw [sumN_next, sumN_next, sumN_next, ih (by omega), h k (by omega)]
    simp only [Int.emod_add_emod, Int.add_emod_emod]
    congr 1; omega
theorem sum_mul {p c : Int} {xs zs : List Int} {n : Nat} (h : ∀ i, i < n → zs.getD i 0 = (xs.getD i 0 * c) % p) : ∀ k, k ≤ n → sumN p zs k = (sumN p xs k * c) % p := by
  intro k
  induction k with
  | zero => intro _; simp [sumN]
  | succ k ih =>
    intro hk
    rw [sumN_next, sumN_next, ih (by omega), h k (by omega)]
    simp only [Int.emod_add_emod, Int.add_emod_emod]
    rw [Int.mul_emod ((sumN p xs k + xs.getD k 0) % p), Int.emod_emod_of_dvd _ (Int.dvd_refl p), ← Int.mul_emod, Int.add_mul]
theorem sum_first {p c : Int} {xs zs : List Int} {n : Nat} (h0 : zs.getD 0 0 = (xs.getD 0 0 + c) % p) (h : ∀ i, 0 < i → i < n → zs.getD i 0 = xs.getD i 0) : ∀ k, k < n → sumN p zs (k + 1) = (sumN p xs (k + 1) + c) % p := by
  intro k
  induction k with
  | zero =>
    intro _
    rw [sumN_next, sumN_next, h0]
    simp [sumN]
  | succ k ih =>
    intro hk
    rw [sumN_next, sumN_next p xs, ih (by omega), h (k + 1) (by omega) hk]
    simp only [Int.emod_add_emod]
    congr 1; omega
theorem map_at {f : Nat → Int} {n i : Nat} (h : i < n) : ((List.range n).map f).getD i 0 = f i := by
  simp [List.getD_eq_getElem?_getD, h]
theorem el_of {p : Int} {zs : List Int} (hp : isP p) (h : ∀ i, i < zs.length → isEl p (zs.getD i 0)) : allEl p zs := by
  refine ⟨hp, fun x hx => ?_⟩
  obtain ⟨i, hi, rfl⟩ := List.mem_iff_getElem.1 hx
  have := h i hi
  rwa [List.getD_eq_getElem?_getD, List.getElem?_eq_getElem hi] at this
theorem add_sum {p : Int} {xs ys : List Int} (h : addOk p xs ys) : fsumI p (addL p xs ys) = (fsumI p xs + fsumI p ys) % p := by
  obtain ⟨hl, hx, hy⟩ := h
  have e : addL p xs ys = addN p xs ys xs.length := if_pos ⟨hl, hx, hy⟩
  have hz : ∀ i, i < xs.length → (addN p xs ys xs.length).getD i 0 = (xs.getD i 0 + ys.getD i 0) % p := fun i hi => by
    unfold addN
    rw [map_at hi, faddI_yes (isEl_at hx hi) (isEl_at hy (by omega))]
  have ha : allEl p (addN p xs ys xs.length) := el_of hx.1 fun i hi => by
    rw [addN_length] at hi
    rw [hz i hi]
    exact isEl_mod hx.1 _
  rw [e, fsumI_yes ha, fsumI_yes hx, fsumI_yes hy, addN_length, sum_add hz _ (Nat.le_refl _), hl]
theorem scl_sum {p c : Int} {xs : List Int} (h : sclOk p c xs) : fsumI p (sclL p c xs) = (fsumI p xs * c) % p := by
  obtain ⟨hc, hx⟩ := h
  have e : sclL p c xs = sclN p c xs xs.length := if_pos ⟨hc, hx⟩
  have hz : ∀ i, i < xs.length → (sclN p c xs xs.length).getD i 0 = (xs.getD i 0 * c) % p := fun i hi => by
    unfold sclN
    rw [map_at hi, fmulI_yes (isEl_at hx hi) hc]
  have ha : allEl p (sclN p c xs xs.length) := el_of hx.1 fun i hi => by
    rw [sclN_length] at hi
    rw [hz i hi]
    exact isEl_mod hx.1 _
  rw [e, fsumI_yes ha, fsumI_yes hx, sclN_length, sum_mul hz _ (Nat.le_refl _)]
theorem addc_sum {p c : Int} {xs : List Int} (h0 : 0 < xs.length) (h : sclOk p c xs) : fsumI p (addcL p c xs) = (fsumI p xs + c) % p := by
  obtain ⟨hc, hx⟩ := h
  have e : addcL p c xs = xs.set 0 (faddI p (xs.getD 0 0) c) := if_pos ⟨h0, hc, hx⟩
  have hf : faddI p (xs.getD 0 0) c = (xs.getD 0 0 + c) % p := faddI_yes (isEl_at hx h0) hc
  rw [hf] at e
  have hz0 : (xs.set 0 ((xs.getD 0 0 + c) % p)).getD 0 0 = (xs.getD 0 0 + c) % p := by
    simp [List.getD_eq_getElem?_getD, h0]
  have hz : ∀ i, 0 < i → i < xs.length → (xs.set 0 ((xs.getD 0 0 + c) % p)).getD i 0 = xs.getD i 0 := fun i hi _ => by
    rw [List.getD_eq_getElem?_getD, List.getElem?_set_ne (by omega), ← List.getD_eq_getElem?_getD]
  have ha : allEl p (xs.set 0 ((xs.getD 0 0 + c) % p)) := el_of hx.1 fun i hi => by
    rw [List.length_set] at hi
    rcases Nat.eq_zero_or_pos i with h' | h'
    · subst h'; rw [hz0]; exact isEl_mod hx.1 _
    · rw [hz i h' hi]; exact isEl_at hx hi
  obtain ⟨m, hm⟩ : ∃ m, xs.length = m + 1 := ⟨xs.length - 1, by omega⟩
  rw [e, fsumI_yes ha, fsumI_yes hx, List.length_set]
  have := sum_first hz0 hz m (by omega)
  rw [hm]
  exact this
/-- The shares' lengths, and what they open to. -/
theorem open_of {p r : Int} {zs : List Int} (h0 : 1 ≤ zs.length) (h5 : zs.length ≤ 5) (h : fsumI p zs = r) : openI p zs = r := by
  unfold openI; rw [if_pos ⟨h0, h5⟩, h]
theorem addL_len {p : Int} {xs ys : List Int} (h : addOk p xs ys) : (addL p xs ys).length = xs.length := by
  unfold addL; rw [if_pos h, addN_length]
theorem sclL_len {p c : Int} {xs : List Int} (h : sclOk p c xs) : (sclL p c xs).length = xs.length := by
  unfold sclL; rw [if_pos h, sclN_length]
theorem addcL_len {p c : Int} {xs : List Int} (h0 : 0 < xs.length) (h : sclOk p c xs) : (addcL p c xs).length = xs.length := by
  unfold addcL; rw [if_pos ⟨h0, h⟩, List.length_set]
end Go.Proofs.Ytcjgoonkdjaccaa
