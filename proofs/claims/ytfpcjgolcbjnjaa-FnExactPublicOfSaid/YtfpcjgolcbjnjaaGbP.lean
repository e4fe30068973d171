/- Garbling in plain numbers: what Garble, GarbledOk, PublicOf and InputLabels answer. No condition. -/
import Derived.Test.YtfpcjgolcbjnjaaGbN
namespace Go.Proofs.Ytfpcjgolcbjnjaa
open Go Go.RowKit
theorem ifI_mul {b x : Int} (h : b = 0 ∨ b = 1) : ifI b x = b * x := by
  unfold ifI
  rcases h with rfl | rfl <;> simp
def allLbl (l : List Int) : Prop := ∀ x ∈ l, isLbl x
instance (l : List Int) : Decidable (allLbl l) := by unfold allLbl; infer_instance
theorem allLbl.at_ {l : List Int} (h : allLbl l) (k : Nat) : isLbl (l.getD k 0) := by
  rcases Nat.lt_or_ge k l.length with hk | hk
  · exact h _ (gD_mem hk)
  · rw [List.getD_eq_getElem?_getD, List.getElem?_eq_none hk]; unfold isLbl; simp
theorem allLbl_no {l : List Int} {k : Nat} (hk : k < l.length) (h : ¬ isLbl (l.getD k 0)) : ¬ allLbl l := fun e => h (e _ (gD_mem hk))
theorem allLbl_of {l : List Int} (h : ∀ k, k < l.length → isLbl (l.getD k 0)) : allLbl l := fun x hx => by
  obtain ⟨i, hi, e⟩ := mem_gD (d := 0) hx
  rw [← e]; exact h i hi
/-- Garble. -/
def garOk (z : List Int) (n : Nat) (os : List Int) (s a : Int) : Prop := cirOk z n os ∧ dOk s a
instance (z : List Int) (n : Nat) (os : List Int) (s a : Int) : Decidable (garOk z n os s a) := by unfold garOk; infer_instance
def garD (z : List Int) (n : Nat) (os : List Int) (s a : Int) : Int := if garOk z n os s a then dltI s a else 0
def garZ (z : List Int) (n : Nat) (os : List Int) (s a : Int) : List Int := if garOk z n os s a then gbZ z s a (dltI s a) n else []
def garT (z : List Int) (n : Nat) (os : List Int) (s a : Int) : List Int := if garOk z n os s a then gbT z s a (dltI s a) n else []
/-- GarbledOk. -/
def gOk (z : List Int) (n : Nat) (os : List Int) (d : Int) (zs ts : List Int) : Prop := cirOk z n os ∧ (isLbl d ∧ d % 2 = 1) ∧ (allLbl zs ∧ zs.length = n) ∧ allLbl ts ∧ ts.length = 2 * cnt z 4 n
instance (z : List Int) (n : Nat) (os : List Int) (d : Int) (zs ts : List Int) : Decidable (gOk z n os d zs ts) := by unfold gOk; infer_instance
/-- PublicOf. -/
def pubT (z : List Int) (n : Nat) (os : List Int) (d : Int) (zs ts : List Int) : List Int := if gOk z n os d zs ts then ts else []
def pubC (z : List Int) (n : Nat) (os : List Int) (d : Int) (zs ts : List Int) : List Int := if gOk z n os d zs ts then gbC z zs d n else []
def low1 (l : List Int) : List Int := l.map fun x => x % 2
def pubD (z : List Int) (n : Nat) (os : List Int) (d : Int) (zs ts : List Int) : List Int := if gOk z n os d zs ts then low1 (outV zs os) else []
/-- InputLabels. -/
def inL (s a d : Int) (bs : List Int) : Nat → List Int
  | 0 => []
  | k + 1 => inL s a d bs k ++ [lblI (izI s a k) d (bs.getD k 0)]
def inOk (s a : Int) (bs : List Int) : Prop := dOk s a ∧ bs.length ≤ 80 ∧ allBit bs
instance (s a : Int) (bs : List Int) : Decidable (inOk s a bs) := by unfold inOk; infer_instance
def inI (s a : Int) (bs : List Int) : List Int := if inOk s a bs then inL s a (dltI s a) bs bs.length else []
section
variable {z os zs ts bs : List Int} {n : Nat} {s a d : Int}
theorem inL_length (s a d : Int) (bs : List Int) (k : Nat) : (inL s a d bs k).length = k := by
  induction k with
  | zero => rfl
  | succ k ih => simp [inL, ih]
theorem inI_length (s a : Int) (bs : List Int) : (inI s a bs).length ≤ 80 := by
  unfold inI
  split
  · rename_i h; rw [inL_length]; exact h.2.1
  · simp
theorem inL_at (s a d : Int) (bs : List Int) {k m : Nat} (h : k < m) : (inL s a d bs m).getD k 0 = lblI (izI s a k) d (bs.getD k 0) := by
  induction m with
  | zero => omega
  | succ m ih =>
    rcases Nat.lt_or_ge k m with h1 | h1
    · rw [inL, gD_left (by rw [inL_length]; omega)]
      exact ih h1
    · rw [show k = m by omega, inL, gD_right (by rw [inL_length]; omega), inL_length, Nat.sub_self]
      rfl
theorem garZ_length (z : List Int) (n : Nat) (os : List Int) (s a : Int) : (garZ z n os s a).length ≤ 6000 := by
  unfold garZ
  split
  · rename_i h; rw [gbZ_length]; exact h.1.1
  · simp
theorem garT_length (z : List Int) (n : Nat) (os : List Int) (s a : Int) : (garT z n os s a).length ≤ 12000 := by
  unfold garT
  split
  · rename_i h
    rw [gbT_length]
    have := cnt_le z 4 n
    have := h.1.1
    omega
  · simp
theorem pubT_length : (pubT z n os d zs ts).length ≤ 12000 := by
  unfold pubT
  split
  · rename_i h
    have := cnt_le z 4 n
    have := h.1.1
    rw [h.2.2.2.2]
    omega
  · simp
theorem pubC_length : (pubC z n os d zs ts).length ≤ 6000 := by
  unfold pubC
  split
  · rename_i h
    have := cnt_le z 2 n
    have := h.1.1
    rw [gbC_length]
    omega
  · simp
theorem pubD_length : (pubD z n os d zs ts).length ≤ os.length := by
  unfold pubD
  split
  · simp [low1, outV]
  · simp
theorem low1_take (zs os : List Int) {i : Nat} (h : i < os.length) : low1 (outV zs (os.take (i + 1))) = low1 (outV zs (os.take i)) ++ [zs.getD (os.getD i 0).toNat 0 % 2] := by
  rw [outV_take zs os h]
  simp [low1]
/-- What Garble makes, GarbledOk accepts. -/
theorem gar_ok (h : garOk z n os s a) : gOk z n os (dltI s a) (gbZ z s a (dltI s a) n) (gbT z s a (dltI s a) n) := by
  obtain ⟨d0, d1⟩ := dlt_lbl h.2
  refine ⟨h.1, ⟨d0, d1⟩, ⟨allLbl_of fun k hk => ?_, gbZ_length _ _ _ _ _⟩, ?_, gbT_length _ _ _ _ _⟩
  · rw [gbZ_length] at hk
    exact gbZ_lbl h.1.2.1 h.1.1 h.2 d0 n (Nat.le_refl _) k hk
  · exact gbT_lbl h.1.2.1 h.1.1 h.2 d0 n (Nat.le_refl _)
/-- The labels for both values of a bit differ by the common difference. -/
theorem lbl_flip {z d v : Int} (hz : isLbl z) (hd : isLbl d) (hv : isBit v) : lx (lblI z d v) (lblI z d (1 - v)) = d := by
  have hv2 : isBit (1 - v) := by unfold isBit at *; omega
  rw [lbl_yes hz hd hv, lbl_yes hz hd hv2]
  obtain ⟨x, rfl⟩ := Int.eq_ofNat_of_zero_le hz.1
  obtain ⟨y, rfl⟩ := Int.eq_ofNat_of_zero_le hd.1
  unfold isBit at hv
  rcases (show v = 0 ∨ v = 1 by omega) with rfl | rfl
  · rw [if_neg (by omega), if_pos (by omega), lx_nat, lx_nat, nxor_same]
  · rw [if_pos rfl, if_neg (by omega), lx_nat, lx_nat, Nat.xor_comm, nxor_same]
/-- The tables and the label of an and gate, as the programs compute them. -/
theorem tg_bits {n : Nat} {a b d : Int} (hn : n ≤ 6000) (ha : isLbl a) (hd : isLbl d) : tgI d n a b = bits .xor .i64 (bits .xor .i64 (hshI a (2 * n)) (hshI (bits .xor .i64 a d) (2 * n))) (ifI (b % 2) d) := by
  have hx := lx_lbl ha hd
  have h0 := hsh_lbl ha (n := 2 * n) (by omega)
  have h1 := hsh_lbl hx (n := 2 * n) (by omega)
  rw [lx_bits ha hd, lx_bits h0 h1, lx_bits (lx_lbl h0 h1) (ifI_lbl hd)]
  rfl
theorem te_bits {n : Nat} {a b d : Int} (hn : n ≤ 6000) (ha : isLbl a) (hb : isLbl b) (hd : isLbl d) : teI d n a b = bits .xor .i64 (bits .xor .i64 (hshI b (2 * n + 1)) (hshI (bits .xor .i64 b d) (2 * n + 1))) a := by
  have hx := lx_lbl hb hd
  have h0 := hsh_lbl hb (n := 2 * n + 1) (by omega)
  have h1 := hsh_lbl hx (n := 2 * n + 1) (by omega)
  rw [lx_bits hb hd, lx_bits h0 h1, lx_bits (lx_lbl h0 h1) ha]
  rfl
theorem ev_bits {n : Nat} {a b g e : Int} (hn : n ≤ 6000) (ha : isLbl a) (hb : isLbl b) (hg : isLbl g) (he : isLbl e) :
    evA n a b g e = bits .xor .i64 (bits .xor .i64 (bits .xor .i64 (hshI a (2 * n)) (hshI b (2 * n + 1))) (ifI (a % 2) g)) (ifI (b % 2) (bits .xor .i64 e a)) := by
  have h0 := hsh_lbl ha (n := 2 * n) (by omega)
  have h1 := hsh_lbl hb (n := 2 * n + 1) (by omega)
  rw [lx_bits he ha, lx_bits h0 h1, lx_bits (lx_lbl h0 h1) (ifI_lbl hg), lx_bits (lx_lbl (lx_lbl h0 h1) (ifI_lbl hg)) (ifI_lbl (lx_lbl he ha))]
  rfl
/-- The same, as the program takes it together. -/
theorem ev_pairs {n : Nat} {a b g e : Int} (hn : n ≤ 6000) (ha : isLbl a) (hb : isLbl b) (hg : isLbl g) (he : isLbl e) :
    evA n a b g e = bits .xor .i64 (bits .xor .i64 (hshI a (2 * n)) (ifI (a % 2) g)) (bits .xor .i64 (hshI b (2 * n + 1)) (ifI (b % 2) (bits .xor .i64 e a))) := by
  have h0 := hsh_lbl ha (n := 2 * n) (by omega)
  have h1 := hsh_lbl hb (n := 2 * n + 1) (by omega)
  have h2 := ifI_lbl (b := a % 2) hg
  have h3 := ifI_lbl (b := b % 2) (lx_lbl he ha)
  rw [lx_bits he ha, lx_bits h0 h2, lx_bits h1 h3, lx_bits (lx_lbl h0 h2) (lx_lbl h1 h3)]
  unfold evA
  generalize hshI a (2 * n) = u at *
  generalize hshI b (2 * n + 1) = v at *
  generalize ifI (a % 2) g = x at *
  generalize ifI (b % 2) (lx e a) = y at *
  obtain ⟨u, rfl⟩ := Int.eq_ofNat_of_zero_le h0.1
  obtain ⟨v, rfl⟩ := Int.eq_ofNat_of_zero_le h1.1
  obtain ⟨x, rfl⟩ := Int.eq_ofNat_of_zero_le h2.1
  obtain ⟨y, rfl⟩ := Int.eq_ofNat_of_zero_le h3.1
  simp only [lx_nat]
  congr 1
  rw [Nat.xor_assoc u v x, Nat.xor_comm v x, ← Nat.xor_assoc u x v, Nat.xor_assoc (u ^^^ x) v y]
end
end Go.Proofs.Ytfpcjgolcbjnjaa
