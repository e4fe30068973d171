/- Boolean circuits in plain numbers: a gate is three numbers of a list. No condition. -/
import Derived.Test.YtfpcjgolcbjnjaaProg
import Derived.Test.YtfpcjgolcbjnjaaC1
import Derived.Test.YtfpcjgolcbjnjaaBitM
namespace Go.Proofs.Ytfpcjgolcbjnjaa
open Go Go.RowKit
def gk (z : List Int) (i : Nat) : Int := z.getD (i * 3) 0
def ga (z : List Int) (i : Nat) : Int := z.getD (i * 3 + 1) 0
def gb (z : List Int) (i : Nat) : Int := z.getD (i * 3 + 2) 0
theorem gD_left {α : Type} {xs ys : List α} {i : Nat} {d : α} (h : i < xs.length) : (xs ++ ys).getD i d = xs.getD i d := by
  rw [List.getD_eq_getElem?_getD, List.getD_eq_getElem?_getD, List.getElem?_append_left h]
theorem gD_right {α : Type} {xs ys : List α} {i : Nat} {d : α} (h : xs.length ≤ i) : (xs ++ ys).getD i d = ys.getD (i - xs.length) d := by
  rw [List.getD_eq_getElem?_getD, List.getD_eq_getElem?_getD, List.getElem?_append_right h]
theorem gD_mem {α : Type} {xs : List α} {i : Nat} {d : α} (h : i < xs.length) : xs.getD i d ∈ xs := by
  rw [List.getD_eq_getElem?_getD, List.getElem?_eq_getElem h]
  exact List.getElem_mem _
theorem mem_gD {α : Type} {xs : List α} {x d : α} (h : x ∈ xs) : ∃ i, i < xs.length ∧ xs.getD i d = x := by
  obtain ⟨i, hi, rfl⟩ := List.mem_iff_getElem.1 h
  exact ⟨i, hi, by rw [List.getD_eq_getElem?_getD, List.getElem?_eq_getElem hi]; rfl⟩
/-- Whether a gate is valid at an index. -/
def gateOk (k a b n : Int) : Prop :=
  (k = 1 ∧ (0 ≤ a ∧ a ≤ 79) ∧ b = 0) ∨ (k = 2 ∧ (0 ≤ a ∧ a ≤ 1) ∧ b = 0) ∨ ((k = 3 ∨ k = 4) ∧ (0 ≤ a ∧ a < n) ∧ (0 ≤ b ∧ b < n)) ∨ (k = 5 ∧ (0 ≤ a ∧ a < n) ∧ b = 0)
instance (k a b n : Int) : Decidable (gateOk k a b n) := by unfold gateOk; infer_instance
def gatesOk (z : List Int) (n : Nat) : Prop := ∀ i, i < n → gateOk (gk z i) (ga z i) (gb z i) i
instance (z : List Int) (n : Nat) : Decidable (gatesOk z n) := by unfold gatesOk; infer_instance
def wiresOk (os : List Int) (n : Nat) : Prop := ∀ o ∈ os, 0 ≤ o ∧ o < (n : Int)
instance (os : List Int) (n : Nat) : Decidable (wiresOk os n) := by unfold wiresOk; infer_instance
def cirOk (z : List Int) (n : Nat) (os : List Int) : Prop := n ≤ 6000 ∧ gatesOk z n ∧ wiresOk os n
instance (z : List Int) (n : Nat) (os : List Int) : Decidable (cirOk z n os) := by unfold cirOk; infer_instance
def allBit (zs : List Int) : Prop := ∀ x ∈ zs, isBit x
instance (zs : List Int) : Decidable (allBit zs) := by unfold allBit; infer_instance
def bitsOk (zs : List Int) : Prop := zs.length = 80 ∧ allBit zs
instance (zs : List Int) : Decidable (bitsOk zs) := by unfold bitsOk; infer_instance
theorem allBit_no {zs : List Int} {k : Nat} (h : ¬ isBit (zs.getD k 0)) : ¬ allBit zs := fun e => by
  rcases Nat.lt_or_ge k zs.length with hk | hk
  · exact h (e _ (gD_mem hk))
  · rw [List.getD_eq_getElem?_getD, List.getElem?_eq_none hk] at h
    exact h (by unfold isBit; simp)
theorem allBit_of {zs : List Int} (h : ∀ k, k < zs.length → isBit (zs.getD k 0)) : allBit zs := fun x hx => by
  obtain ⟨i, hi, e⟩ := mem_gD (d := 0) hx
  rw [← e]; exact h i hi
theorem allBit.at_ {zs : List Int} (h : allBit zs) (k : Nat) : isBit (zs.getD k 0) := by
  rcases Nat.lt_or_ge k zs.length with hk | hk
  · exact h _ (gD_mem hk)
  · rw [List.getD_eq_getElem?_getD, List.getElem?_eq_none hk]; unfold isBit; simp
theorem wiresOk_no {os : List Int} {n k : Nat} (hk : k < os.length) (h : ¬ (0 ≤ os.getD k 0 ∧ os.getD k 0 < (n : Int))) : ¬ wiresOk os n := fun e => h (e _ (gD_mem hk))
theorem wiresOk_of {os : List Int} {n : Nat} (h : ∀ k, k < os.length → 0 ≤ os.getD k 0 ∧ os.getD k 0 < (n : Int)) : wiresOk os n := fun x hx => by
  obtain ⟨i, hi, e⟩ := mem_gD (d := 0) hx
  rw [← e]; exact h i hi
theorem isBit.or {x : Int} (h : isBit x) : x = 0 ∨ x = 1 := by unfold isBit at h; omega
theorem xor_bit {x y : Int} (hx : isBit x) (hy : isBit y) : bits .xor .i64 x y = if x = y then 0 else 1 := by
  rcases hx.or with rfl | rfl <;> rcases hy.or with rfl | rfl <;> decide +kernel
theorem and_bit {x y : Int} (hx : isBit x) (hy : isBit y) : bits .and .i64 x y = x * y := by
  rcases hx.or with rfl | rfl <;> rcases hy.or with rfl | rfl <;> decide +kernel
/-- The value of a gate, where v has those of the wires before it. -/
def gval (k a b : Int) (v bs : List Int) : Int :=
  if k = 1 then bs.getD a.toNat 0 else if k = 2 then a else if k = 3 then (if v.getD a.toNat 0 = v.getD b.toNat 0 then 0 else 1) else if k = 4 then v.getD a.toNat 0 * v.getD b.toNat 0 else 1 - v.getD a.toNat 0
theorem gval_bit {k a b n : Int} {v bs : List Int} (h : gateOk k a b n) (hv : allBit v) (hb : allBit bs) : isBit (gval k a b v bs) := by
  unfold gval
  split
  · exact hb.at_ _
  · split
    · rcases h with h | h | h | h
      · omega
      · exact h.2.1
      · omega
      · omega
    · split
      · split <;> (unfold isBit; omega)
      · have h1 := hv.at_ a.toNat
        have h2 := hv.at_ b.toNat
        split
        · rcases h1.or with e | e <;> rcases h2.or with e' | e' <;> rw [e, e'] <;> decide
        · unfold isBit at *; omega
/-- The values of the first i wires. -/
def wv (z bs : List Int) : Nat → List Int
  | 0 => []
  | i + 1 => wv z bs i ++ [gval (gk z i) (ga z i) (gb z i) (wv z bs i) bs]
theorem wv_length (z bs : List Int) (i : Nat) : (wv z bs i).length = i := by
  induction i with
  | zero => rfl
  | succ i ih => simp [wv, ih]
theorem wv_bit {z bs : List Int} {n : Nat} (h : gatesOk z n) (hb : allBit bs) : ∀ i, i ≤ n → allBit (wv z bs i) := by
  intro i
  induction i with
  | zero => exact fun _ x hx => by simp [wv] at hx
  | succ i ih =>
    intro hi x hx
    simp only [wv, List.mem_append, List.mem_singleton] at hx
    rcases hx with hx | rfl
    · exact ih (by omega) x hx
    · exact gval_bit (h i (by omega)) (ih (by omega)) hb
theorem wv_pre (z bs : List Int) {i j k : Nat} (hij : i ≤ j) (hk : k < i) : (wv z bs j).getD k 0 = (wv z bs i).getD k 0 := by
  induction j with
  | zero => omega
  | succ j ih =>
    rcases Nat.lt_or_ge i (j + 1) with h | h
    · rw [wv, gD_left (by rw [wv_length]; omega)]
      exact ih (by omega)
    · rw [show i = j + 1 by omega]
theorem gval_pre (z bs : List Int) {k a b : Int} {i j : Nat} (h : gateOk k a b i) (hij : i ≤ j) : gval k a b (wv z bs j) bs = gval k a b (wv z bs i) bs := by
  unfold gval
  rcases h with h | h | h | h
  · rw [if_pos h.1, if_pos h.1]
  · rw [if_neg (by omega), if_pos h.1, if_neg (by omega), if_pos h.1]
  · rw [wv_pre z bs hij (show a.toNat < i by omega), wv_pre z bs hij (show b.toNat < i by omega)]
  · rw [wv_pre z bs hij (show a.toNat < i by omega), if_neg (by omega), if_neg (by omega), if_neg (by omega), if_neg (by omega), if_neg (by omega), if_neg (by omega), if_neg (by omega), if_neg (by omega)]
/-- Every wire satisfies its gate. -/
theorem wv_at {z bs : List Int} {n i : Nat} (h : gatesOk z n) (hi : i < n) : (wv z bs n).getD i 0 = gval (gk z i) (ga z i) (gb z i) (wv z bs n) bs := by
  rw [gval_pre z bs (h i hi) (by omega), wv_pre z bs (show i + 1 ≤ n by omega) (by omega), wv, gD_right (by rw [wv_length]; omega), wv_length, Nat.sub_self]
  rfl
def evOk (z : List Int) (n : Nat) (os bs : List Int) : Prop := cirOk z n os ∧ bitsOk bs
instance (z : List Int) (n : Nat) (os bs : List Int) : Decidable (evOk z n os bs) := by unfold evOk; infer_instance
def evW (z : List Int) (n : Nat) (os bs : List Int) : List Int := if evOk z n os bs then wv z bs n else []
def outV (v os : List Int) : List Int := os.map fun o => v.getD o.toNat 0
def evC (z : List Int) (n : Nat) (os bs : List Int) : List Int := if evOk z n os bs then outV (wv z bs n) os else []
theorem evW_length (z : List Int) (n : Nat) (os bs : List Int) : (evW z n os bs).length ≤ 6000 := by
  unfold evW
  split
  · rename_i h; rw [wv_length]; exact h.1.1
  · simp
theorem outV_length (v os : List Int) : (outV v os).length = os.length := by simp [outV]
theorem evC_length (z : List Int) (n : Nat) (os bs : List Int) : (evC z n os bs).length ≤ os.length := by
  unfold evC
  split
  · rw [outV_length]; omega
  · simp
theorem outV_at (v os : List Int) {i : Nat} (h : i < os.length) : (outV v os).getD i 0 = v.getD (os.getD i 0).toNat 0 := by
  simp [outV, List.getD_eq_getElem?_getD, List.getElem?_map, List.getElem?_eq_getElem h]
theorem outV_take (v os : List Int) {i : Nat} (h : i < os.length) : outV v (os.take (i + 1)) = outV v (os.take i) ++ [v.getD (os.getD i 0).toNat 0] := by
  rw [List.take_add_one, List.getElem?_eq_getElem h, show os.getD i 0 = os[i] by rw [List.getD_eq_getElem?_getD, List.getElem?_eq_getElem h]; rfl]
  simp only [outV, List.map_append, Option.toList_some, List.map_cons, List.map_nil]
/-- How many of the first n gates are of a kind. -/
def cnt (z : List Int) (k : Int) : Nat → Nat
  | 0 => 0
  | i + 1 => cnt z k i + if gk z i = k then 1 else 0
theorem cnt_le (z : List Int) (k : Int) (n : Nat) : cnt z k n ≤ n := by
  induction n with
  | zero => exact Nat.le_refl _
  | succ n ih => simp only [cnt]; split <;> omega
theorem cnt_mono (z : List Int) (k : Int) {i j : Nat} (h : i ≤ j) : cnt z k i ≤ cnt z k j := by
  induction j with
  | zero => rw [show i = 0 by omega]; exact Nat.le_refl _
  | succ j ih =>
    rcases Nat.lt_or_ge i (j + 1) with h' | h'
    · have := ih (by omega)
      simp only [cnt]; omega
    · rw [show i = j + 1 by omega]; exact Nat.le_refl _
/-- The depth of a gate, where d has those of the wires before it. -/
def gdep (k a b : Int) (d : List Int) : Int :=
  if k = 3 then max (d.getD a.toNat 0) (d.getD b.toNat 0) else if k = 4 then 1 + max (d.getD a.toNat 0) (d.getD b.toNat 0) else if k = 5 then d.getD a.toNat 0 else 0
def dps (z : List Int) : Nat → List Int
  | 0 => []
  | i + 1 => dps z i ++ [gdep (gk z i) (ga z i) (gb z i) (dps z i)]
def mxd (z : List Int) : Nat → Int
  | 0 => 0
  | i + 1 => max (mxd z i) (gdep (gk z i) (ga z i) (gb z i) (dps z i))
theorem dps_length (z : List Int) (i : Nat) : (dps z i).length = i := by
  induction i with
  | zero => rfl
  | succ i ih => simp [dps, ih]
theorem dps_pre (z : List Int) {i j k : Nat} (hij : i ≤ j) (hk : k < i) : (dps z j).getD k 0 = (dps z i).getD k 0 := by
  induction j with
  | zero => omega
  | succ j ih =>
    rcases Nat.lt_or_ge i (j + 1) with h | h
    · rw [dps, gD_left (by rw [dps_length]; omega)]
      exact ih (by omega)
    · rw [show i = j + 1 by omega]
theorem dps_last (z : List Int) (i : Nat) : (dps z (i + 1)).getD i 0 = gdep (gk z i) (ga z i) (gb z i) (dps z i) := by
  rw [dps, gD_right (by rw [dps_length]; omega), dps_length, Nat.sub_self]
  rfl
theorem gdep_range {k a b : Int} {d : List Int} {m : Int} (hm : 0 ≤ m) (h : ∀ i, 0 ≤ d.getD i 0 ∧ d.getD i 0 ≤ m) : 0 ≤ gdep k a b d ∧ gdep k a b d ≤ m + if k = 4 then 1 else 0 := by
  have h1 := h a.toNat
  have h2 := h b.toNat
  unfold gdep
  generalize d.getD a.toNat 0 = x at *
  generalize d.getD b.toNat 0 = y at *
  split
  · rw [if_neg (by omega)]; omega
  · split
    · omega
    · split <;> omega
theorem dps_range (z : List Int) (n : Nat) : ∀ i, 0 ≤ (dps z n).getD i 0 ∧ (dps z n).getD i 0 ≤ (cnt z 4 n : Int) := by
  induction n with
  | zero => intro i; simp [dps, cnt]
  | succ n ih =>
    intro i
    rcases Nat.lt_or_ge i n with h | h
    · rw [dps_pre z (Nat.le_succ n) h]
      have := ih i
      have h2 : cnt z 4 n ≤ cnt z 4 (n + 1) := cnt_mono z 4 (Nat.le_succ n)
      omega
    · rcases Nat.lt_or_ge i (n + 1) with h' | h'
      · obtain rfl : i = n := by omega
        rw [dps_last]
        have := gdep_range (k := gk z i) (a := ga z i) (b := gb z i) (by omega) ih
        simp only [cnt]
        split at this <;> rename_i e
        · rw [if_pos e]; omega
        · rw [if_neg e]; omega
      · rw [List.getD_eq_getElem?_getD, List.getElem?_eq_none (by rw [dps_length]; omega)]
        exact ⟨Int.le_refl _, by simp⟩
theorem mxd_ge (z : List Int) (n : Nat) : 0 ≤ mxd z n ∧ ∀ i, (dps z n).getD i 0 ≤ mxd z n := by
  induction n with
  | zero => exact ⟨Int.le_refl _, fun i => by simp [dps, mxd]⟩
  | succ n ih =>
    refine ⟨by simp only [mxd]; omega, fun i => ?_⟩
    rcases Nat.lt_or_ge i n with h | h
    · rw [dps_pre z (Nat.le_succ n) h]
      have := ih.2 i
      simp only [mxd]; omega
    · rcases Nat.lt_or_ge i (n + 1) with h' | h'
      · obtain rfl : i = n := by omega
        rw [dps_last]
        simp only [mxd]; omega
      · rw [List.getD_eq_getElem?_getD, List.getElem?_eq_none (by rw [dps_length]; omega)]
        simp only [mxd]
        have := ih.1
        simp only [Option.getD_none]
        omega
theorem mxd_le (z : List Int) (n : Nat) : mxd z n ≤ (cnt z 4 n : Int) := by
  induction n with
  | zero => simp [mxd, cnt]
  | succ n ih =>
    have h := dps_range z (n + 1) n
    rw [dps_last] at h
    have h2 : cnt z 4 n ≤ cnt z 4 (n + 1) := cnt_mono z 4 (Nat.le_succ n)
    simp only [mxd]
    omega
theorem mxd_pos {z : List Int} {n : Nat} (h : 0 < cnt z 4 n) : 0 < mxd z n := by
  induction n with
  | zero => simp [cnt] at h
  | succ n ih =>
    simp only [cnt] at h
    simp only [mxd]
    split at h
    · rename_i e
      have h1 := (dps_range z n (ga z n).toNat).1
      have : 0 < gdep (gk z n) (ga z n) (gb z n) (dps z n) := by
        unfold gdep
        rw [if_neg (by omega), if_pos e]
        omega
      omega
    · have := ih (by omega)
      omega
def depI (z : List Int) (n : Nat) (os : List Int) : Int := if cirOk z n os then mxd z n else -1
/-- A list of gates that goes on. -/
theorem gk_left {z y : List Int} {i n : Nat} (hz : z.length = n * 3) (h : i < n) : gk (z ++ y) i = gk z i := gD_left (by omega)
theorem ga_left {z y : List Int} {i n : Nat} (hz : z.length = n * 3) (h : i < n) : ga (z ++ y) i = ga z i := gD_left (by omega)
theorem gb_left {z y : List Int} {i n : Nat} (hz : z.length = n * 3) (h : i < n) : gb (z ++ y) i = gb z i := gD_left (by omega)
theorem gate_last {z : List Int} {n : Nat} (k a b : Int) (hz : z.length = n * 3) : gk (z ++ [k, a, b]) n = k ∧ ga (z ++ [k, a, b]) n = a ∧ gb (z ++ [k, a, b]) n = b := by
  unfold gk ga gb
  rw [gD_right (by omega), gD_right (by omega), gD_right (by omega), hz, Nat.sub_self, show n * 3 + 1 - n * 3 = 1 by omega, show n * 3 + 2 - n * 3 = 2 by omega]
  exact ⟨rfl, rfl, rfl⟩
theorem gatesOk_left {z y : List Int} {n : Nat} (hz : z.length = n * 3) : gatesOk (z ++ y) n ↔ gatesOk z n := by
  unfold gatesOk
  constructor
  · intro h i hi; have := h i hi; rwa [gk_left hz hi, ga_left hz hi, gb_left hz hi] at this
  · intro h i hi; rw [gk_left hz hi, ga_left hz hi, gb_left hz hi]; exact h i hi
theorem gatesOk_snoc {z : List Int} {n : Nat} {k a b : Int} (hz : z.length = n * 3) (h : gatesOk z n) (hg : gateOk k a b n) : gatesOk (z ++ [k, a, b]) (n + 1) := fun i hi => by
  rcases Nat.lt_or_ge i n with h' | h'
  · rw [gk_left hz h', ga_left hz h', gb_left hz h']; exact h i h'
  · obtain rfl : i = n := by omega
    obtain ⟨e1, e2, e3⟩ := gate_last k a b hz
    rw [e1, e2, e3]; exact hg
theorem wv_left {z y bs : List Int} {n : Nat} (hz : z.length = n * 3) : ∀ i, i ≤ n → wv (z ++ y) bs i = wv z bs i := by
  intro i
  induction i with
  | zero => exact fun _ => rfl
  | succ i ih => intro hi; rw [wv, wv, ih (by omega), gk_left hz (by omega), ga_left hz (by omega), gb_left hz (by omega)]
theorem dps_left {z y : List Int} {n : Nat} (hz : z.length = n * 3) : ∀ i, i ≤ n → dps (z ++ y) i = dps z i := by
  intro i
  induction i with
  | zero => exact fun _ => rfl
  | succ i ih => intro hi; rw [dps, dps, ih (by omega), gk_left hz (by omega), ga_left hz (by omega), gb_left hz (by omega)]
theorem mxd_left {z y : List Int} {n : Nat} (hz : z.length = n * 3) : ∀ i, i ≤ n → mxd (z ++ y) i = mxd z i := by
  intro i
  induction i with
  | zero => exact fun _ => rfl
  | succ i ih => intro hi; rw [mxd, mxd, ih (by omega), dps_left hz i (by omega), gk_left hz (by omega), ga_left hz (by omega), gb_left hz (by omega)]
theorem cnt_left {z y : List Int} {k : Int} {n : Nat} (hz : z.length = n * 3) : ∀ i, i ≤ n → cnt (z ++ y) k i = cnt z k i := by
  intro i
  induction i with
  | zero => exact fun _ => rfl
  | succ i ih => intro hi; rw [cnt, cnt, ih (by omega), gk_left hz (by omega)]
/-- An and gate more. -/
theorem free_gates {z : List Int} {n : Nat} (a b : Int) (hz : z.length = n * 3) :
    (mxd (z ++ [4, a, b]) (n + 1) = mxd z n ∨ mxd (z ++ [4, a, b]) (n + 1) = mxd z n + 1) ∧ 1 ≤ mxd (z ++ [4, a, b]) (n + 1) ∧ cnt (z ++ [4, a, b]) 4 (n + 1) = cnt z 4 n + 1 := by
  obtain ⟨e1, e2, e3⟩ := gate_last 4 a b hz
  have h0 := mxd_ge z n
  have h1 := h0.2 a.toNat
  have h2 := h0.2 b.toNat
  have h3 := (dps_range z n a.toNat).1
  have e : mxd (z ++ [4, a, b]) (n + 1) = max (mxd z n) (1 + max ((dps z n).getD a.toNat 0) ((dps z n).getD b.toNat 0)) := by
    rw [mxd, mxd_left hz n (Nat.le_refl _), dps_left hz n (Nat.le_refl _), e1, e2, e3]
    rfl
  rw [e, cnt, cnt_left hz n (Nat.le_refl _), e1]
  exact ⟨by omega, by omega, rfl⟩
end Go.Proofs.Ytfpcjgolcbjnjaa
