/- Prime fields in plain numbers: the primes up to 101, elements, powers, inverses, sums. No condition. -/
import Derived.WalkKit
import Derived.ProofKit
import Derived.IntWalk
namespace Go.Proofs.Ytcjgoonkdjaccaa
open Go Go.RowKit

def primeN (n : Nat) : Prop := 2 ≤ n ∧ n ≤ 101 ∧ ∀ e, e < 11 → 2 ≤ e → e * e ≤ n → n % e ≠ 0
instance (n : Nat) : Decidable (primeN n) := by unfold primeN; infer_instance
def isP (p : Int) : Prop := 0 ≤ p ∧ primeN p.toNat
instance (p : Int) : Decidable (isP p) := by unfold isP; infer_instance
def isEl (p a : Int) : Prop := isP p ∧ 0 ≤ a ∧ a < p
instance (p a : Int) : Decidable (isEl p a) := by unfold isEl; infer_instance
theorem isP.nat {p : Int} (h : isP p) : ∃ n : Nat, p = (n : Int) ∧ primeN n ∧ 2 ≤ n ∧ n ≤ 101 :=
  ⟨p.toNat, by have := h.1; omega, h.2, h.2.1, h.2.2.1⟩
theorem isP.range {p : Int} (h : isP p) : 2 ≤ p ∧ p ≤ 101 := by
  obtain ⟨n, rfl, _, h1, h2⟩ := h.nat
  omega
theorem isEl.range {p a : Int} (h : isEl p a) : 2 ≤ p ∧ p ≤ 101 ∧ 0 ≤ a ∧ a < p ∧ a ≤ 100 := by
  have := h.1.range
  have := h.2
  omega
theorem isP_nat (n : Nat) : isP (n : Int) ↔ primeN n := by
  unfold isP
  simp
/-- What the trial divisions found. -/
theorem isP_no {n d : Nat} (h2 : 2 ≤ d) (hd : d < 11) (hq : d * d ≤ n) (h : n % d = 0) : ¬ isP (n : Int) := fun k => ((isP_nat n).1 k).2.2 d hd h2 hq h
theorem isP_yes {n d : Nat} (h2 : 2 ≤ n) (hn : n ≤ 101) (hq : n < d * d) (h : ∀ e, e < d → 2 ≤ e → n % e ≠ 0) : isP (n : Int) := by
  refine (isP_nat n).2 ⟨h2, hn, fun e he he2 hee => h e ?_ he2⟩
  rcases Nat.lt_or_ge e d with h' | h'
  · exact h'
  · have := Nat.mul_le_mul h' h'
    omega

def faddI (p a b : Int) : Int := if isEl p a ∧ isEl p b then (a + b) % p else -1
def fsubI (p a b : Int) : Int := if isEl p a ∧ isEl p b then (a - b) % p else -1
def fmulI (p a b : Int) : Int := if isEl p a ∧ isEl p b then (a * b) % p else -1
/-- The power of a with k factors. -/
def pwN (p a : Nat) : Nat → Nat
  | 0 => 1
  | k + 1 => pwN p a k * a % p
theorem pwN_next (p a k : Nat) : pwN p a (k + 1) = pwN p a k * a % p := by rw [pwN]
theorem pwN_lt (p a : Nat) (hp : 2 ≤ p) (k : Nat) : pwN p a k < p := by
  cases k with
  | zero => rw [pwN]; omega
  | succ k => rw [pwN]; exact Nat.mod_lt _ (by omega)
def finvI (p a : Int) : Int := if isEl p a ∧ a ≠ 0 then (pwN p.toNat a.toNat (p.toNat - 2) : Int) else -1
set_option maxRecDepth 100000 in
theorem pw_inv : ∀ p, p < 102 → primeN p → ∀ a, a < p → a ≠ 0 → pwN p a (p - 2) * a % p = 1 := by decide +kernel
theorem finvI_nat (p a : Nat) (h : isEl (p : Int) (a : Int)) (h0 : a ≠ 0) : finvI (p : Int) (a : Int) = (pwN p a (p - 2) : Int) := by
  unfold finvI
  rw [if_pos ⟨h, by omega⟩]
  simp
theorem isEl.nat {p a : Int} (h : isEl p a) : ∃ n m : Nat, p = (n : Int) ∧ a = (m : Int) ∧ primeN n ∧ 2 ≤ n ∧ n ≤ 101 ∧ m < n := by
  obtain ⟨n, rfl, h1, h2, h3⟩ := h.1.nat
  have := h.2
  exact ⟨n, a.toNat, rfl, by omega, h1, h2, h3, by omega⟩
/-- The inverse: its range, its product with a, and no other number has that product. -/
theorem finvI_facts {p a : Int} (h : isEl p a) (h0 : a ≠ 0) : 1 ≤ finvI p a ∧ finvI p a < p ∧ (a * finvI p a) % p = 1 ∧ ∀ b : Int, 0 ≤ b → b < p → (a * b) % p = 1 → b = finvI p a := by
  obtain ⟨n, m, rfl, rfl, hp, h2, h3, hm⟩ := h.nat
  have hm0 : m ≠ 0 := by omega
  rw [finvI_nat n m h hm0]
  have hi := pw_inv n (by omega) hp m hm hm0
  have hl := pwN_lt n m h2 (n - 2)
  generalize pwN n m (n - 2) = x at hi hl
  have hx0 : x ≠ 0 := by rintro rfl; simp at hi
  have hi' : ((m : Int) * (x : Int)) % (n : Int) = 1 := by
    rw [Int.mul_comm]
    exact_mod_cast hi
  refine ⟨by omega, by omega, hi', fun b hb0 hb1 hb => ?_⟩
  have e1 : ((x : Int) * ((m : Int) * b)) % (n : Int) = (x : Int) % n := by
    rw [Int.mul_emod, hb, Int.mul_one, Int.emod_emod_of_dvd _ (Int.dvd_refl _)]
  have e2 : ((x : Int) * ((m : Int) * b)) % (n : Int) = b % n := by
    rw [← Int.mul_assoc, Int.mul_comm (x : Int) (m : Int), Int.mul_emod, hi', Int.one_mul, Int.emod_emod_of_dvd _ (Int.dvd_refl _)]
  have e3 : b % (n : Int) = (x : Int) % (n : Int) := e2.symm.trans e1
  rw [Int.emod_eq_of_lt hb0 hb1, Int.emod_eq_of_lt (by omega) (by omega)] at e3
  exact e3
theorem finvI_zero (p : Int) : finvI p 0 = -1 := by unfold finvI; rw [if_neg (fun h => h.2 rfl)]
theorem finvI_no {p a : Int} (h : ¬ isEl p a) : finvI p a = -1 := by unfold finvI; rw [if_neg (fun k => h k.1)]
theorem zero_prod (p b : Int) : ((0 : Int) * b) % p ≠ 1 := by simp

/-- The sum of the first k numbers of a list, modulo p. -/
def sumN (p : Int) (xs : List Int) : Nat → Int
  | 0 => 0
  | k + 1 => (sumN p xs k + xs.getD k 0) % p
theorem sumN_next (p : Int) (xs : List Int) (k : Nat) : sumN p xs (k + 1) = (sumN p xs k + xs.getD k 0) % p := by rw [sumN]
theorem sumN_range (p : Int) (xs : List Int) (hp : 2 ≤ p) (k : Nat) : 0 ≤ sumN p xs k ∧ sumN p xs k < p := by
  cases k with
  | zero => rw [sumN]; omega
  | succ k => rw [sumN]; exact ⟨Int.emod_nonneg _ (by omega), Int.emod_lt_of_pos _ (by omega)⟩
def allEl (p : Int) (xs : List Int) : Prop := isP p ∧ ∀ x ∈ xs, isEl p x
instance (p : Int) (xs : List Int) : Decidable (allEl p xs) := by unfold allEl; infer_instance
def fsumI (p : Int) (xs : List Int) : Int := if allEl p xs then sumN p xs xs.length else -1
theorem fsumI_yes {p : Int} {xs : List Int} (h : allEl p xs) : fsumI p xs = sumN p xs xs.length := by unfold fsumI; rw [if_pos h]
theorem fsumI_no {p : Int} {xs : List Int} (h : ¬ allEl p xs) : fsumI p xs = -1 := by unfold fsumI; rw [if_neg h]

theorem faddI_yes {p a b : Int} (ha : isEl p a) (hb : isEl p b) : faddI p a b = (a + b) % p := by unfold faddI; rw [if_pos ⟨ha, hb⟩]
theorem fsubI_yes {p a b : Int} (ha : isEl p a) (hb : isEl p b) : fsubI p a b = (a - b) % p := by unfold fsubI; rw [if_pos ⟨ha, hb⟩]
theorem fmulI_yes {p a b : Int} (ha : isEl p a) (hb : isEl p b) : fmulI p a b = (a * b) % p := by unfold fmulI; rw [if_pos ⟨ha, hb⟩]
theorem isEl_mod {p : Int} (h : isP p) (x : Int) : isEl p (x % p) := by
  have := h.range
  exact ⟨h, Int.emod_nonneg _ (by omega), Int.emod_lt_of_pos _ (by omega)⟩
theorem isEl.mod {p a : Int} (h : isEl p a) : a % p = a := Int.emod_eq_of_lt h.2.1 h.2.2
theorem faddI_el {p a b : Int} (ha : isEl p a) (hb : isEl p b) : isEl p (faddI p a b) := by rw [faddI_yes ha hb]; exact isEl_mod ha.1 _
theorem fsubI_el {p a b : Int} (ha : isEl p a) (hb : isEl p b) : isEl p (fsubI p a b) := by rw [fsubI_yes ha hb]; exact isEl_mod ha.1 _
theorem fmulI_el {p a b : Int} (ha : isEl p a) (hb : isEl p b) : isEl p (fmulI p a b) := by rw [fmulI_yes ha hb]; exact isEl_mod ha.1 _
theorem isEl_zero {p : Int} (h : isP p) : isEl p 0 := by have := h.range; exact ⟨h, by omega, by omega⟩
theorem isEl_one {p : Int} (h : isP p) : isEl p 1 := by have := h.range; exact ⟨h, by omega, by omega⟩
theorem field_distrib {p a b c : Int} (ha : isEl p a) (hb : isEl p b) (hc : isEl p c) : fmulI p a (faddI p b c) = faddI p (fmulI p a b) (fmulI p a c) := by
  rw [fmulI_yes ha (faddI_el hb hc), faddI_yes hb hc, faddI_yes (fmulI_el ha hb) (fmulI_el ha hc), fmulI_yes ha hb, fmulI_yes ha hc]
  rw [Int.mul_emod, Int.emod_emod_of_dvd _ (Int.dvd_refl _), ← Int.mul_emod, Int.mul_add, Int.add_emod]
theorem field_sub {p a b : Int} (ha : isEl p a) (hb : isEl p b) : faddI p (fsubI p a b) b = a := by
  rw [faddI_yes (fsubI_el ha hb) hb, fsubI_yes ha hb, Int.add_emod, Int.emod_emod_of_dvd _ (Int.dvd_refl _), ← Int.add_emod]
  rw [show a - b + b = a by omega, ha.mod]
theorem field_assoc {p a b c : Int} (ha : isEl p a) (hb : isEl p b) (hc : isEl p c) : fmulI p (fmulI p a b) c = fmulI p a (fmulI p b c) := by
  rw [fmulI_yes (fmulI_el ha hb) hc, fmulI_yes ha (fmulI_el hb hc), fmulI_yes ha hb, fmulI_yes hb hc]
  rw [Int.mul_emod, Int.emod_emod_of_dvd _ (Int.dvd_refl _), ← Int.mul_emod, Int.mul_assoc, Int.mul_emod a, Int.mul_emod a, Int.emod_emod_of_dvd (b * c) (Int.dvd_refl p)]
theorem field_zero {p a : Int} (ha : isEl p a) : faddI p a 0 = a := by
  rw [faddI_yes ha (isEl_zero ha.1), Int.add_zero, ha.mod]
theorem field_one {p a : Int} (ha : isEl p a) : fmulI p a 1 = a := by
  rw [fmulI_yes ha (isEl_one ha.1), Int.mul_one, ha.mod]
theorem fadd_comm (p a b : Int) : faddI p a b = faddI p b a := by
  unfold faddI
  by_cases h : isEl p a ∧ isEl p b
  · rw [if_pos h, if_pos ⟨h.2, h.1⟩, Int.add_comm]
  · rw [if_neg h, if_neg (fun k => h ⟨k.2, k.1⟩)]
theorem fmul_comm (p a b : Int) : fmulI p a b = fmulI p b a := by
  unfold fmulI
  by_cases h : isEl p a ∧ isEl p b
  · rw [if_pos h, if_pos ⟨h.2, h.1⟩, Int.mul_comm]
  · rw [if_neg h, if_neg (fun k => h ⟨k.2, k.1⟩)]
theorem fsum_nil {p : Int} (h : isP p) : fsumI p [] = 0 := by
  rw [fsumI_yes ⟨h, by simp⟩]; rfl
theorem fsum_three {p a b c : Int} (ha : isEl p a) (hb : isEl p b) (hc : isEl p c) : fsumI p [a, b, c] = fsumI p [c, b, a] := by
  rw [fsumI_yes ⟨ha.1, by simp [ha, hb, hc]⟩, fsumI_yes ⟨ha.1, by simp [ha, hb, hc]⟩]
  simp only [List.length_cons, List.length_nil, Nat.zero_add, sumN_next, sumN, List.getD_cons_zero, List.getD_cons_succ, Int.zero_add]
  simp only [Int.emod_add_emod]
  rw [show c + b + a = a + b + c by omega]
end Go.Proofs.Ytcjgoonkdjaccaa
