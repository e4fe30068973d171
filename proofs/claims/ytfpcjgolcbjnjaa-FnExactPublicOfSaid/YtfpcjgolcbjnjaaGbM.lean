/- Labels and garbled gates in plain numbers: a garbled and gate is right for all four combinations of values. No condition. -/
import Derived.Test.YtfpcjgolcbjnjaaTapeM
import Derived.Test.YtfpcjgolcbjnjaaBitM
namespace Go.Proofs.Ytfpcjgolcbjnjaa
open Go Go.RowKit
theorem nxor_same (x y : Nat) : x ^^^ (x ^^^ y) = y := by rw [← Nat.xor_assoc, Nat.xor_self, Nat.zero_xor]
theorem nxor_left (x y z : Nat) : x ^^^ (y ^^^ z) = y ^^^ (x ^^^ z) := by rw [← Nat.xor_assoc, Nat.xor_comm x y, Nat.xor_assoc]
/-- The two halves of an and gate, for all values and permute bits. -/
theorem half_gates (a d ha0 ha1 hb0 hb1 : Nat) (pa pb va vb : Bool) :
    (if va then ha1 else ha0) ^^^ (if vb then hb1 else hb0) ^^^ (if pa != va then ha0 ^^^ ha1 ^^^ (if pb then d else 0) else 0) ^^^ (if pb != vb then hb0 ^^^ hb1 ^^^ a ^^^ (if va then a ^^^ d else a) else 0) =
      ha0 ^^^ hb0 ^^^ (if pa then ha0 ^^^ ha1 ^^^ (if pb then d else 0) else 0) ^^^ (if pb then hb0 ^^^ hb1 ^^^ a ^^^ a else 0) ^^^ (if va && vb then d else 0) := by
  cases pa <;> cases pb <;> cases va <;> cases vb <;> simp [Nat.xor_comm, nxor_left, nxor_same]
def isLbl (x : Int) : Prop := 0 ≤ x ∧ x ≤ 65535
instance (x : Int) : Decidable (isLbl x) := by unfold isLbl; infer_instance
/-- Exclusive or. -/
def lx (a b : Int) : Int := ((a.toNat ^^^ b.toNat : Nat) : Int)
theorem lx_nat (a b : Nat) : lx a b = ((a ^^^ b : Nat) : Int) := rfl
theorem lx_nn (a b : Int) : 0 ≤ lx a b := by unfold lx; omega
theorem lx_lbl {a b : Int} (ha : isLbl a) (hb : isLbl b) : isLbl (lx a b) := by
  unfold isLbl at *
  have := Nat.xor_lt_two_pow (n := 16) (x := a.toNat) (y := b.toNat) (by omega) (by omega)
  unfold lx
  omega
theorem lx_self (a : Int) : lx a a = 0 := by unfold lx; rw [Nat.xor_self]; rfl
theorem lx_back {a b : Int} (ha : 0 ≤ b) : lx a (lx a b) = b := by
  unfold lx
  rw [Int.toNat_natCast, nxor_same]
  omega
theorem lx_zero {a : Int} (h : 0 ≤ a) : lx a 0 = a := by unfold lx; rw [show (0 : Int).toNat = 0 from rfl, Nat.xor_zero]; omega
/-- The least significant bit. -/
theorem lx_bit {a b : Int} (ha : 0 ≤ a) (hb : 0 ≤ b) : lx a b % 2 = (a % 2 + b % 2) % 2 := by
  obtain ⟨x, rfl⟩ := Int.eq_ofNat_of_zero_le ha
  obtain ⟨y, rfl⟩ := Int.eq_ofNat_of_zero_le hb
  rw [lx_nat]
  have h : (x ^^^ y) % 2 = (x % 2 + y % 2) % 2 := by
    have h1 := Nat.xor_mod_two_pow (a := x) (b := y) (n := 1)
    rw [Nat.pow_one] at h1
    rw [h1]
    rcases Nat.mod_two_eq_zero_or_one x with h2 | h2 <;> rcases Nat.mod_two_eq_zero_or_one y with h3 | h3 <;> rw [h2, h3] <;> rfl
  omega
theorem i64_or_nat (a b : Nat) (ha : a < 9223372036854775808) (hb : b < 9223372036854775808) : bits .or .i64 (a : Int) (b : Int) = ((a ||| b : Nat) : Int) := by
  have hx : a ||| b < 2 ^ 63 := Nat.or_lt_two_pow (by omega) (by omega)
  show IntKind.i64.wrap ((BitVec.ofInt 64 (a : Int) ||| BitVec.ofInt 64 (b : Int)).toNat : Int) = _
  rw [BitVec.toNat_or, i64_bits_small a ha, i64_bits_small b hb, IntKind.wrap_i64]
  omega
theorem i64_and_mask16 (x : Int) : bits .and .i64 x 65535 = x % 65536 := by
  show IntKind.i64.wrap ((BitVec.ofInt 64 x &&& BitVec.ofInt 64 (65535 : Int)).toNat : Int) = _
  have h2 : (BitVec.ofInt 64 (65535 : Int)).toNat = 65535 := by decide
  have h3 : ((BitVec.ofInt 64 x).toNat : Int) = x % 18446744073709551616 := by
    rw [BitVec.toNat_ofInt, Int.toNat_of_nonneg (by omega)]
    rfl
  have h4 : (BitVec.ofInt 64 x).toNat &&& 65535 = (BitVec.ofInt 64 x).toNat % 65536 := Nat.and_two_pow_sub_one_eq_mod _ 16
  rw [BitVec.toNat_and, h2, h4, IntKind.wrap_i64]
  omega
/-- The program's exclusive or of labels. -/
theorem lx_bits {a b : Int} (ha : isLbl a) (hb : isLbl b) : bits .xor .i64 a b = lx a b := by
  obtain ⟨x, rfl⟩ := Int.eq_ofNat_of_zero_le ha.1
  obtain ⟨y, rfl⟩ := Int.eq_ofNat_of_zero_le hb.1
  unfold isLbl at ha hb
  rw [i64_xor_nat _ _ (by omega) (by omega), lx_nat]
theorem or_one {x : Int} (h : 0 ≤ x ∧ x < 65536) : bits .or .i64 x 1 = ((x.toNat ||| 1 : Nat) : Int) := by
  obtain ⟨y, rfl⟩ := Int.eq_ofNat_of_zero_le h.1
  rw [show (1 : Int) = ((1 : Nat) : Int) from rfl, i64_or_nat _ _ (by omega) (by omega), Int.toNat_natCast]
/-- The hash of a label. -/
def hshI (x n : Int) : Int := if isLbl x ∧ 0 ≤ n ∧ n ≤ 1000000 then keyedI 77 n x % 65536 else -1
theorem hsh_lbl {x n : Int} (hx : isLbl x) (hn : 0 ≤ n ∧ n ≤ 1000000) : isLbl (hshI x n) := by
  unfold hshI isLbl
  rw [if_pos ⟨hx, hn⟩]
  omega
/-- The common difference. -/
def dOk (s a : Int) : Prop := isTape s a ∧ a ≤ 900000
instance (s a : Int) : Decidable (dOk s a) := by unfold dOk; infer_instance
def dltI (s a : Int) : Int := if dOk s a then (((tbI s a 65536).toNat ||| 1 : Nat) : Int) else 0
def dltA (s a : Int) : Int := if dOk s a then a + 1 else a
/-- The label of a wire for a value; the value of a label. -/
def lblI (z d v : Int) : Int := if isLbl z ∧ isLbl d ∧ isBit v then (if v = 1 then lx z d else z) else -1
def lvI (z d l : Int) : Int := if 0 ≤ lblI z d 0 ∧ lblI z d 0 = l then 0 else if 0 ≤ lblI z d 1 ∧ lblI z d 1 = l then 1 else -1
theorem lbl_lbl {z d v : Int} (hz : isLbl z) (hd : isLbl d) (hv : isBit v) : isLbl (lblI z d v) := by
  unfold lblI
  rw [if_pos ⟨hz, hd, hv⟩]
  split
  · exact lx_lbl hz hd
  · exact hz
theorem lbl_bit {z d v : Int} (hz : isLbl z) (hd : isLbl d) (h1 : d % 2 = 1) (hv : isBit v) : lblI z d v % 2 = (z % 2 + v) % 2 := by
  unfold lblI
  rw [if_pos ⟨hz, hd, hv⟩]
  unfold isBit at hv
  split
  · rename_i h
    rw [lx_bit hz.1 hd.1, h, h1]
  · rename_i h
    rw [show v = 0 by omega]
    omega
/-- A label denotes its value. -/
theorem lv_lbl {z d v : Int} (hz : isLbl z) (hd : isLbl d) (h1 : d % 2 = 1) (hv : isBit v) : lvI z d (lblI z d v) = v := by
  have b0 := lbl_bit hz hd h1 (v := 0) (by unfold isBit; omega)
  have bv := lbl_bit hz hd h1 hv
  have n0 := (lbl_lbl hz hd (v := 0) (by unfold isBit; omega)).1
  have nv := (lbl_lbl hz hd hv).1
  unfold lvI
  unfold isBit at hv
  rcases (show v = 0 ∨ v = 1 by omega) with rfl | rfl
  · rw [if_pos ⟨n0, rfl⟩]
  · rw [if_neg (fun e => by rw [e.2] at b0; omega), if_pos ⟨nv, rfl⟩]
/-- The label for 0 of an input bit. -/
def izI (s a k : Int) : Int := if forkOk s a k then tbI (tfI s a k) 0 65536 else -1
def ifI (b x : Int) : Int := if b = 1 then x else 0
/-- The two table entries of an and gate, and what the labels of its operands make of them. -/
def tgI (d n a b : Int) : Int := lx (lx (hshI a (2 * n)) (hshI (lx a d) (2 * n))) (ifI (b % 2) d)
def teI (d n a b : Int) : Int := lx (lx (hshI b (2 * n + 1)) (hshI (lx b d) (2 * n + 1))) a
def evA (n a b g e : Int) : Int := lx (lx (lx (hshI a (2 * n)) (hshI b (2 * n + 1))) (ifI (a % 2) g)) (ifI (b % 2) (lx e a))
theorem ifI_lbl {b x : Int} (h : isLbl x) : isLbl (ifI b x) := by
  unfold ifI
  split
  · exact h
  · unfold isLbl; omega
section
variable {n a b d va vb : Int}
theorem tg_lbl (hn : 0 ≤ n ∧ n ≤ 400000) (ha : isLbl a) (hd : isLbl d) : isLbl (tgI d n a b) := lx_lbl (lx_lbl (hsh_lbl ha (by omega)) (hsh_lbl (lx_lbl ha hd) (by omega))) (ifI_lbl hd)
theorem te_lbl (hn : 0 ≤ n ∧ n ≤ 400000) (ha : isLbl a) (hb : isLbl b) (hd : isLbl d) : isLbl (teI d n a b) := lx_lbl (lx_lbl (hsh_lbl hb (by omega)) (hsh_lbl (lx_lbl hb hd) (by omega))) ha
theorem evA_lbl {g e : Int} (hn : 0 ≤ n ∧ n ≤ 400000) (ha : isLbl a) (hb : isLbl b) (hg : isLbl g) (he : isLbl e) : isLbl (evA n a b g e) :=
  lx_lbl (lx_lbl (lx_lbl (hsh_lbl ha (by omega)) (hsh_lbl hb (by omega))) (ifI_lbl hg)) (ifI_lbl (lx_lbl he ha))
/-- An and gate's label is that of the product, whatever the labels of its operands denote. -/
theorem and_right (hn : 0 ≤ n ∧ n ≤ 400000) (ha : isLbl a) (hb : isLbl b) (hd : isLbl d) (h1 : d % 2 = 1) (hva : isBit va) (hvb : isBit vb) :
    evA n (lblI a d va) (lblI b d vb) (tgI d n a b) (teI d n a b) = lblI (evA n a b (tgI d n a b) (teI d n a b)) d (va * vb) := by
  have T1 := tg_lbl (n := n) (b := b) hn ha hd
  have T2 := te_lbl (n := n) hn ha hb hd
  have W := evA_lbl hn ha hb T1 T2
  have nat : ∀ {x : Int}, isLbl x → ∃ y : Nat, x = y := fun h => Int.eq_ofNat_of_zero_le h.1
  obtain ⟨h0, e0⟩ := nat (hsh_lbl ha (n := 2 * n) (by omega))
  obtain ⟨h1', e1⟩ := nat (hsh_lbl (lx_lbl ha hd) (n := 2 * n) (by omega))
  obtain ⟨h2, e2⟩ := nat (hsh_lbl hb (n := 2 * n + 1) (by omega))
  obtain ⟨h3, e3⟩ := nat (hsh_lbl (lx_lbl hb hd) (n := 2 * n + 1) (by omega))
  have ba := lbl_bit ha hd h1 hva
  have bb := lbl_bit hb hd h1 hvb
  have H := half_gates a.toNat d.toNat h0 h1' h2 h3 (decide (a % 2 = 1)) (decide (b % 2 = 1)) (decide (va = 1)) (decide (vb = 1))
  obtain ⟨a, rfl⟩ := nat ha
  obtain ⟨b, rfl⟩ := nat hb
  obtain ⟨d, rfl⟩ := nat hd
  simp only [Int.toNat_natCast] at H
  unfold isBit at hva hvb
  have lb : ∀ (z v : Int), isLbl z → (v = 0 ∨ v = 1) → lblI z (d : Int) v = if v = 1 then lx z d else z := fun z v hz hv => if_pos ⟨hz, hd, by unfold isBit; omega⟩
  have ifn : ∀ (c : Int) (x : Nat), ifI c (x : Int) = ((if decide (c = 1) then x else 0 : Nat) : Int) := fun c x => by
    unfold ifI
    by_cases h : c = 1 <;> simp [h]
  have va2 : va = 0 ∨ va = 1 := by omega
  have vb2 : vb = 0 ∨ vb = 1 := by omega
  have EA : lblI a d va = ((if decide (va = 1) then a ^^^ d else a : Nat) : Int) := by
    rw [lb a va ha va2]
    rcases va2 with rfl | rfl <;> simp [lx_nat]
  have HA : hshI (lblI a d va) (2 * n) = ((if decide (va = 1) then h1' else h0 : Nat) : Int) := by
    rw [lb a va ha va2]
    rcases va2 with rfl | rfl
    · simpa using e0
    · simpa using e1
  have HB : hshI (lblI b d vb) (2 * n + 1) = ((if decide (vb = 1) then h3 else h2 : Nat) : Int) := by
    rw [lb b vb hb vb2]
    rcases vb2 with rfl | rfl
    · simpa using e2
    · simpa using e3
  have PA : ∀ x : Nat, ifI (lblI a d va % 2) (x : Int) = ((if decide ((a : Int) % 2 = 1) != decide (va = 1) then x else 0 : Nat) : Int) := fun x => by
    rw [ifn, ba]
    congr 2
    rcases va2 with rfl | rfl <;> by_cases pa : (a : Int) % 2 = 1
    · simp [pa]
    · simp [show (a : Int) % 2 = 0 by omega]
    · simp [pa]
    · simp [show (a : Int) % 2 = 0 by omega]
  have PB : ∀ x : Nat, ifI (lblI b d vb % 2) (x : Int) = ((if decide ((b : Int) % 2 = 1) != decide (vb = 1) then x else 0 : Nat) : Int) := fun x => by
    rw [ifn, bb]
    congr 2
    rcases vb2 with rfl | rfl <;> by_cases pb : (b : Int) % 2 = 1
    · simp [pb]
    · simp [show (b : Int) % 2 = 0 by omega]
    · simp [pb]
    · simp [show (b : Int) % 2 = 0 by omega]
  have TG : tgI d n a b = ((h0 ^^^ h1' ^^^ (if decide ((b : Int) % 2 = 1) then d else 0) : Nat) : Int) := by
    unfold tgI
    rw [e0, e1, lx_nat, ifn, lx_nat]
  have TE : teI d n a b = ((h2 ^^^ h3 ^^^ a : Nat) : Int) := by
    unfold teI
    rw [e2, e3, lx_nat, lx_nat]
  have WW : evA n a b (tgI d n a b) (teI d n a b) = ((h0 ^^^ h2 ^^^ (if decide ((a : Int) % 2 = 1) then h0 ^^^ h1' ^^^ (if decide ((b : Int) % 2 = 1) then d else 0) else 0) ^^^ (if decide ((b : Int) % 2 = 1) then h2 ^^^ h3 ^^^ a ^^^ a else 0) : Nat) : Int) := by
    rw [TG, TE]
    unfold evA
    rw [e0, e2, lx_nat, ifn, lx_nat, lx_nat, ifn, lx_nat]
  rw [lb _ _ W (by rcases va2 with rfl | rfl <;> rcases vb2 with rfl | rfl <;> simp), WW, TG, TE]
  have LHS : evA n (lblI a d va) (lblI b d vb) ((h0 ^^^ h1' ^^^ (if decide ((b : Int) % 2 = 1) then d else 0) : Nat) : Int) ((h2 ^^^ h3 ^^^ a : Nat) : Int) = (((if decide (va = 1) then h1' else h0) ^^^ (if decide (vb = 1) then h3 else h2) ^^^ (if decide ((a : Int) % 2 = 1) != decide (va = 1) then h0 ^^^ h1' ^^^ (if decide ((b : Int) % 2 = 1) then d else 0) else 0) ^^^ (if decide ((b : Int) % 2 = 1) != decide (vb = 1) then h2 ^^^ h3 ^^^ a ^^^ (if decide (va = 1) then a ^^^ d else a) else 0) : Nat) : Int) := by
    unfold evA
    rw [HA, HB, lx_nat, PA, lx_nat, EA, lx_nat, PB, lx_nat]
  rw [LHS, H]
  rcases va2 with rfl | rfl <;> rcases vb2 with rfl | rfl <;> simp [lx_nat]
end
theorem keyed_word (k a b : Int) : isWord (keyedI k a b) := by
  unfold keyedI
  split
  · exact mixI_word _
  · unfold isWord; omega
theorem tf_more {s a k : Int} : more (tfI s a k) 0 := by
  have h : isWord (tfI s a k) := by
    unfold tfI
    split
    · exact keyed_word _ _ _
    · unfold isWord; omega
  exact ⟨⟨h, by omega, by omega⟩, by omega⟩
theorem iz_lbl {s a k : Int} (h : forkOk s a k) : isLbl (izI s a k) := by
  have hb : isBound 65536 := by unfold isBound; omega
  unfold izI
  rw [if_pos h]
  unfold tbI
  rw [if_pos ⟨hb, tf_more⟩]
  have := redI_range (x := keyedI (tfI s a k) 7 0) hb
  unfold isLbl
  omega
theorem dlt_lbl {s a : Int} (h : dOk s a) : isLbl (dltI s a) ∧ dltI s a % 2 = 1 := by
  have hb : isBound 65536 := by unfold isBound; omega
  have hm : more s a := ⟨h.1, by have := h.2; omega⟩
  unfold dltI
  rw [if_pos h]
  have e : tbI s a 65536 = redI (keyedI s 7 a) 65536 := if_pos ⟨hb, hm⟩
  have hr := redI_range (x := keyedI s 7 a) hb
  rw [← e] at hr
  obtain ⟨x, hx⟩ := Int.eq_ofNat_of_zero_le hr.1
  rw [hx] at hr ⊢
  rw [Int.toNat_natCast]
  have h1 : x ||| 1 < 65536 := Nat.or_lt_two_pow (n := 16) (by omega) (by omega)
  have h2 : (x ||| 1) % 2 = 1 := by
    have := Nat.or_mod_two_pow (a := x) (b := 1) (n := 1)
    rw [Nat.pow_one] at this
    rw [this]
    rcases Nat.mod_two_eq_zero_or_one x with h2 | h2 <;> rw [h2] <;> rfl
  unfold isLbl
  omega
end Go.Proofs.Ytfpcjgolcbjnjaa
