/- Words of 32 bits: the fold, the product and the mixing, and that each can be undone. No condition. -/
import Derived.WalkKit
import Derived.ProofKit
import Derived.IntWalk
import Derived.Laws.BitsAllLaws
import Derived.Laws.BitsLemmas
namespace Go.Proofs.Ytcjgoonkdjaccaa
open Go Go.RowKit

theorem i64_bits_small (a : Nat) (ha : a < 9223372036854775808) : (BitVec.ofInt 64 (a : Int)).toNat = a := by
  rw [BitVec.ofInt_natCast, BitVec.toNat_ofNat]; exact Nat.mod_eq_of_lt (by omega)
theorem i64_xor_nat (a b : Nat) (ha : a < 9223372036854775808) (hb : b < 9223372036854775808) : bits .xor .i64 (a : Int) (b : Int) = ((a ^^^ b : Nat) : Int) := by
  have hx : a ^^^ b < 2 ^ 63 := Nat.xor_lt_two_pow (by omega) (by omega)
  show IntKind.i64.wrap ((BitVec.ofInt 64 (a : Int) ^^^ BitVec.ofInt 64 (b : Int)).toNat : Int) = _
  rw [BitVec.toNat_xor, i64_bits_small a ha, i64_bits_small b hb, IntKind.wrap_i64]
  omega
theorem i64_and_nat (a b : Nat) (ha : a < 9223372036854775808) (hb : b < 9223372036854775808) : bits .and .i64 (a : Int) (b : Int) = ((a &&& b : Nat) : Int) := by
  have hx : a &&& b < 2 ^ 63 := Nat.and_lt_two_pow _ (by omega)
  show IntKind.i64.wrap ((BitVec.ofInt 64 (a : Int) &&& BitVec.ofInt 64 (b : Int)).toNat : Int) = _
  rw [BitVec.toNat_and, i64_bits_small a ha, i64_bits_small b hb, IntKind.wrap_i64]
  omega
theorem i64_and_mask32 (x : Int) : bits .and .i64 x 4294967295 = x % 4294967296 := by
  have e : ((4294967295 : Nat) : Int) = 4294967295 := rfl
  show IntKind.i64.wrap ((BitVec.ofInt 64 x &&& BitVec.ofInt 64 (4294967295 : Int)).toNat : Int) = _
  have h2 : (BitVec.ofInt 64 (4294967295 : Int)).toNat = 4294967295 := by decide
  have h3 : ((BitVec.ofInt 64 x).toNat : Int) = x % 18446744073709551616 := by
    rw [BitVec.toNat_ofInt, Int.toNat_of_nonneg (by omega)]
    rfl
  have h4 : (BitVec.ofInt 64 x).toNat &&& 4294967295 = (BitVec.ofInt 64 x).toNat % 4294967296 := Nat.and_two_pow_sub_one_eq_mod _ 32
  rw [BitVec.toNat_and, h2, h4, IntKind.wrap_i64]
  omega
theorem i64_and_one (x : Int) : bits .and .i64 x 1 = x % 2 := by
  show IntKind.i64.wrap ((BitVec.ofInt 64 x &&& BitVec.ofInt 64 (1 : Int)).toNat : Int) = _
  have h2 : (BitVec.ofInt 64 (1 : Int)).toNat = 1 := by decide
  have h3 : ((BitVec.ofInt 64 x).toNat : Int) = x % 18446744073709551616 := by
    rw [BitVec.toNat_ofInt, Int.toNat_of_nonneg (by omega)]
    rfl
  have h4 : (BitVec.ofInt 64 x).toNat &&& 1 = (BitVec.ofInt 64 x).toNat % 2 := Nat.and_two_pow_sub_one_eq_mod _ 1
  rw [BitVec.toNat_and, h2, h4, IntKind.wrap_i64]
  omega

def isWord (x : Int) : Prop := 0 ≤ x ∧ x ≤ 4294967295
instance (x : Int) : Decidable (isWord x) := by unfold isWord; infer_instance
def xorI (a b : Int) : Int := if isWord a ∧ isWord b then ((a.toNat ^^^ b.toNat : Nat) : Int) else 0
def foldN (x : Nat) : Nat := x ^^^ (x / 65536)
def prodN (x : Nat) : Nat := x * 73244475 % 4294967296
def mixN (x : Nat) : Nat := foldN (prodN (foldN (prodN (foldN x))))
def mixI (x : Int) : Int := if isWord x then (mixN x.toNat : Int) else 0
def keyedI (k a b : Int) : Int := if isWord k ∧ isWord a ∧ isWord b then mixI (xorI (mixI (xorI (mixI k) a)) b) else 0

theorem xor_word (a b : Nat) (ha : a < 4294967296) (hb : b < 4294967296) : a ^^^ b < 4294967296 :=
  Nat.xor_lt_two_pow (n := 32) ha hb
theorem foldN_lt (x : Nat) (h : x < 4294967296) : foldN x < 4294967296 := xor_word _ _ h (by omega)
theorem prodN_lt (x : Nat) : prodN x < 4294967296 := by unfold prodN; omega
theorem mixN_lt (x : Nat) : mixN x < 4294967296 := foldN_lt _ (prodN_lt _)
theorem foldN_back (x : Nat) (h : x < 4294967296) : foldN (foldN x) = x := by
  have e : ∀ y : Nat, y / 65536 = y >>> 16 := fun y => by rw [Nat.shiftRight_eq_div_pow]
  unfold foldN
  rw [e (x ^^^ x / 65536), e x, Nat.shiftRight_xor_distrib, ← Nat.shiftRight_add]
  have h0 : x >>> (16 + 16) = 0 := by rw [Nat.shiftRight_eq_div_pow]; omega
  rw [h0, Nat.xor_zero, Nat.xor_assoc, Nat.xor_self, Nat.xor_zero]
theorem prodN_back (x : Nat) (h : x < 4294967296) : prodN x * 295559667 % 4294967296 = x := by
  unfold prodN
  omega
theorem foldN_inj {x y : Nat} (hx : x < 4294967296) (hy : y < 4294967296) (h : foldN x = foldN y) : x = y := by
  rw [← foldN_back x hx, h, foldN_back y hy]
theorem prodN_inj {x y : Nat} (hx : x < 4294967296) (hy : y < 4294967296) (h : prodN x = prodN y) : x = y := by
  rw [← prodN_back x hx, h, prodN_back y hy]
theorem mixN_inj {x y : Nat} (hx : x < 4294967296) (hy : y < 4294967296) (h : mixN x = mixN y) : x = y :=
  foldN_inj hx hy (prodN_inj (foldN_lt _ hx) (foldN_lt _ hy) (foldN_inj (prodN_lt _) (prodN_lt _) (prodN_inj (foldN_lt _ (prodN_lt _)) (foldN_lt _ (prodN_lt _)) (foldN_inj (prodN_lt _) (prodN_lt _) h))))
theorem mixI_word (x : Int) : isWord (mixI x) := by
  unfold mixI
  split
  · have := mixN_lt x.toNat; unfold isWord; omega
  · unfold isWord; omega
theorem mixI_inj {x y : Int} (hx : isWord x) (hy : isWord y) (h : mixI x = mixI y) : x = y := by
  unfold mixI at h
  rw [if_pos hx, if_pos hy] at h
  unfold isWord at hx hy
  have := mixN_inj (x := x.toNat) (y := y.toNat) (by omega) (by omega) (by omega)
  omega
theorem xorI_word (a b : Int) : isWord (xorI a b) := by
  unfold xorI
  split
  next h => 
    have := xor_word a.toNat b.toNat (by unfold isWord at h; omega) (by unfold isWord at h; omega)
    unfold isWord; omega
  · unfold isWord; omega
theorem xorI_nat (a b : Nat) (ha : a < 4294967296) (hb : b < 4294967296) : xorI (a : Int) (b : Int) = ((a ^^^ b : Nat) : Int) := by
  unfold xorI
  rw [if_pos (by unfold isWord; omega)]
  simp
theorem word_nat {x : Int} (h : isWord x) : ∃ n : Nat, x = (n : Int) ∧ n < 4294967296 := ⟨x.toNat, by unfold isWord at h; omega, by unfold isWord at h; omega⟩
theorem xorI_bits {a b : Int} (ha : isWord a) (hb : isWord b) : bits .xor .i64 a b = xorI a b := by
  obtain ⟨a, rfl, ka⟩ := word_nat ha
  obtain ⟨b, rfl, kb⟩ := word_nat hb
  rw [xorI_nat a b ka kb, i64_xor_nat _ _ (by omega) (by omega)]
theorem xorI_back {a b : Int} (ha : isWord a) (hb : isWord b) : xorI (xorI a b) b = a := by
  obtain ⟨a, rfl, ka⟩ := word_nat ha
  obtain ⟨b, rfl, kb⟩ := word_nat hb
  rw [xorI_nat a b ka kb, xorI_nat _ b (xor_word a b ka kb) kb, Nat.xor_assoc, Nat.xor_self, Nat.xor_zero]
theorem xorI_comm (a b : Int) : xorI a b = xorI b a := by
  unfold xorI
  by_cases h : isWord a ∧ isWord b
  · rw [if_pos h, if_pos ⟨h.2, h.1⟩, Nat.xor_comm]
  · rw [if_neg h, if_neg (fun e => h ⟨e.2, e.1⟩)]
theorem xorI_inj {a b c : Int} (ha : isWord a) (hb : isWord b) (hc : isWord c) (h : xorI a b = xorI a c) : b = c := by
  rw [← xorI_back hb ha, xorI_comm b a, h, xorI_comm a c, xorI_back hc ha]
theorem keyedI_word (k a b : Int) : isWord (keyedI k a b) := by
  unfold keyedI
  split
  · exact mixI_word _
  · unfold isWord; omega
theorem keyedI_inj {k a b c : Int} (hk : isWord k) (ha : isWord a) (hb : isWord b) (hc : isWord c) (h : keyedI k a b = keyedI k a c) : b = c := by
  unfold keyedI at h
  rw [if_pos ⟨hk, ha, hb⟩, if_pos ⟨hk, ha, hc⟩] at h
  exact xorI_inj (mixI_word _) hb hc (mixI_inj (xorI_word _ _) (xorI_word _ _) h)
/-- The low bit of an exclusive or is that of the sum. -/
theorem xorI_low {a b : Int} (ha : isWord a) (hb : isWord b) : xorI a b % 2 = (a % 2 + b % 2) % 2 := by
  obtain ⟨a, rfl, ka⟩ := word_nat ha
  obtain ⟨b, rfl, kb⟩ := word_nat hb
  rw [xorI_nat a b ka kb]
  have h : (a ^^^ b) % 2 = (a % 2 + b % 2) % 2 := by
    have hx := Nat.xor_mod_two_pow (a := a) (b := b) (n := 1)
    simp only [Nat.pow_one] at hx
    rw [hx]
    rcases Nat.mod_two_eq_zero_or_one a with h | h <;> rcases Nat.mod_two_eq_zero_or_one b with h' | h' <;> rw [h, h'] <;> rfl
  omega
theorem mixI_zero : mixI 0 = 0 := by decide +kernel
theorem mixI_one : mixI 1 = 824515495 := by decide +kernel
end Go.Proofs.Ytcjgoonkdjaccaa
