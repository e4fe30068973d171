/- Decimal digits. No program in this text. -/
import Derived.Test.YtjclhlicginekaaGreatDoorKit
import Derived.Lib.ItoaNum
import Derived.Lib.ItoaMem
import Derived.Lib.ItoaLen
import Derived.Lib.AtoiAllCases
namespace Go.Proofs.YtjclhlicginekaaGreatDoor
open Go Go.RowKit
def dch (d : Nat) : UInt8 := UInt8.ofNat (48 + d)
theorem dch_toNat {d : Nat} (h : d < 10) : (dch d).toNat = 48 + d := by unfold dch; rw [UInt8.toNat_ofNat']; omega
def digs (n : Nat) : List UInt8 := if _h : n = 0 then [] else digs (n / 10) ++ [dch (n % 10)]
  termination_by n
  decreasing_by omega
theorem digs_step (n : Nat) (h : 0 < n) : digs n = digs (n / 10) ++ [dch (n % 10)] := by rw [digs, dif_neg (by omega)]
theorem digs_zero : digs 0 = [] := by rw [digs, dif_pos rfl]
theorem digs_dec (u : Nat) (h : 0 < u) : digs u = Lib.decDigits u := by
  induction u using Nat.strongRecOn with
  | _ u ih =>
    rw [digs_step u h, Lib.decDigits]
    by_cases h10 : u < 10
    · rw [dif_pos h10, show u / 10 = 0 by omega, digs_zero, Nat.mod_eq_of_lt h10]; rfl
    · rw [dif_neg h10, ih (u / 10) (by omega) (by omega)]; rfl
/-- The number that digits spell. -/
def dval (acc : Nat) (l : List UInt8) : Nat := l.foldl (fun a c => a * 10 + (c.toNat - 48)) acc
def allDig (l : List UInt8) : Prop := ∀ c, c ∈ l → 48 ≤ c.toNat ∧ c.toNat ≤ 57
theorem dval_le (l : List UInt8) : ∀ acc, acc ≤ dval acc l := by
  induction l with
  | nil => intro acc; exact Nat.le_refl _
  | cons c r ih => intro acc; have := ih (acc * 10 + (c.toNat - 48)); simp only [dval, List.foldl_cons] at this ⊢; omega
theorem parse_ok (l : List UInt8) : ∀ acc, allDig l → dval acc l ≤ 10000000000 → Lib.parseUint10 acc l = .ok (dval acc l) := by
  induction l with
  | nil => intro acc _ _; rfl
  | cons c r ih =>
    intro acc hd hv
    have hc := hd c (List.mem_cons_self ..)
    have h1 : dval acc (c :: r) = dval (acc * 10 + (c.toNat - 48)) r := rfl
    have h2 := dval_le r (acc * 10 + (c.toNat - 48))
    rw [Lib.parseUint10, if_pos hc, if_neg (by omega), if_neg (by omega), h1]
    exact ih _ (fun x hx => hd x (List.mem_cons_of_mem _ hx)) (by omega)
theorem atoi_ok {l : List UInt8} (h0 : l ≠ []) (hd : allDig l) (hv : dval 0 l ≤ 10000000000) : Lib.atoiAll l = .ok ((dval 0 l : Nat) : Int) := by
  match l, h0 with
  | c :: r, _ =>
    have hc := hd c (List.mem_cons_self ..)
    rw [Lib.atoiAll_plain c r (by omega) (by omega), Lib.parseMag, if_neg (by simp), parse_ok _ 0 hd hv]
    show (if 9223372036854775808 ≤ dval 0 (c :: r) then _ else _) = _
    rw [if_neg (by omega)]
theorem dval_snoc (l : List UInt8) (acc : Nat) (c : UInt8) : dval acc (l ++ [c]) = dval acc l * 10 + (c.toNat - 48) := by simp [dval]
theorem dec_digits (u : Nat) : allDig (Lib.decDigits u) ∧ dval 0 (Lib.decDigits u) = u ∧ Lib.decDigits u ≠ [] := by
  induction u using Nat.strongRecOn with
  | _ u ih =>
    rw [Lib.decDigits]
    by_cases h10 : u < 10
    · rw [dif_pos h10]
      have e : (UInt8.ofNat (48 + u)).toNat = 48 + u := by rw [UInt8.toNat_ofNat']; omega
      refine ⟨fun c hc => ?_, ?_, by simp⟩
      · simp only [List.mem_singleton] at hc; subst hc; rw [e]; omega
      · show 0 * 10 + ((UInt8.ofNat (48 + u)).toNat - 48) = u
        rw [e]; omega
    · rw [dif_neg h10]
      obtain ⟨i1, i2, _⟩ := ih (u / 10) (by omega)
      have e : (UInt8.ofNat (48 + u % 10)).toNat = 48 + u % 10 := by rw [UInt8.toNat_ofNat']; omega
      refine ⟨fun c hc => ?_, ?_, by simp⟩
      · rcases List.mem_append.1 hc with h | h
        · exact i1 c h
        · rw [List.mem_singleton] at h; rw [h, e]; omega
      · rw [dval_snoc, i2, e]; omega
theorem dec_length (u : Nat) (h : u ≤ 1000000000) : (Lib.decDigits u).length ≤ 10 := by
  rw [Lib.decDigits_length]
  have e1 : ∀ k v : Nat, v < 10 ^ (k + 1) → Lib.nDigits v ≤ k + 1 := by
    intro k
    induction k with
    | zero => intro v hv; rw [Lib.nDigits_small (by simpa using hv)]; omega
    | succ k ih =>
      intro v hv
      by_cases hs : v < 10
      · rw [Lib.nDigits_small hs]; omega
      · rw [Lib.nDigits_big hs]
        have := ih (v / 10) (by rw [Nat.pow_succ] at hv; omega)
        omega
  exact e1 9 u (by omega)
/-- When ParseUint accepts. -/
def isNum (l : List UInt8) : Prop := dval 0 l ≤ 1000000000 ∧ Lib.decDigits (dval 0 l) = l
noncomputable def parseR (l : List UInt8) : Value := by classical exact if isNum l then .tuple #[.int .i64 ((dval 0 l : Nat) : Int), .bool true] else .tuple #[.int .i64 0, .bool false]
theorem parseR_yes {l : List UInt8} (h : isNum l) : parseR l = .tuple #[.int .i64 ((dval 0 l : Nat) : Int), .bool true] := by
  classical
  unfold parseR; rw [if_pos h]
theorem parseR_no {l : List UInt8} (h : ¬ isNum l) : parseR l = .tuple #[.int .i64 0, .bool false] := by
  classical
  unfold parseR; rw [if_neg h]
theorem parseR_form (l : List UInt8) : ∃ (x : Int) (b : Bool), parseR l = .tuple #[.int .i64 x, .bool b] := by
  by_cases h : isNum l
  · exact ⟨_, _, parseR_yes h⟩
  · exact ⟨_, _, parseR_no h⟩
theorem isNum_dig {l : List UInt8} (h : isNum l) : allDig l ∧ l ≠ [] ∧ l.length ≤ 10 := by
  obtain ⟨h1, h2⟩ := h
  obtain ⟨d1, d2, d3⟩ := dec_digits (dval 0 l)
  rw [h2] at d1 d3
  exact ⟨d1, d3, by rw [← h2]; exact dec_length _ h1⟩
theorem isNum_atoi {l : List UInt8} (h : isNum l) : Lib.atoiAll l = .ok ((dval 0 l : Nat) : Int) :=
  atoi_ok (isNum_dig h).2.1 (isNum_dig h).1 (by have := h.1; omega)
theorem isNum_of {l : List UInt8} {v : Int} (h0 : 0 ≤ v) (h1 : v ≤ 1000000000) (h : Lib.itoa v = l) : isNum l ∧ ((dval 0 l : Nat) : Int) = v := by
  obtain ⟨u, rfl⟩ := Int.eq_ofNat_of_zero_le h0
  have e : Lib.decDigits u = l := by rw [← h]; unfold Lib.itoa; rw [if_neg (by omega)]; rfl
  obtain ⟨_, d2, _⟩ := dec_digits u
  subst e
  refine ⟨⟨by rw [d2]; omega, by rw [d2]⟩, by rw [d2]⟩
theorem itoa_nat (u : Nat) : Lib.itoa (u : Int) = Lib.decDigits u := Lib.itoa_nonneg u
theorem isNum_iff {l : List UInt8} (hv : dval 0 l ≤ 1000000000) : isNum l ↔ Lib.itoa ((dval 0 l : Nat) : Int) = l := by
  rw [itoa_nat]; exact ⟨fun h => h.2, fun h => ⟨hv, h⟩⟩
theorem digit_val (n : Nat) : ((dch (n % 10)).toNat : Int) = 48 + (n : Int) % 10 := by unfold dch; rw [UInt8.toNat_ofNat']; omega
theorem conv_one {P : Program} {w : World} {src dst e : TypeId} {x : Int} {c : UInt8} (hs : P.underlying src = some (.slice e)) (he : P.underlying e = some (.int .u8)) (hd : P.underlying dst = some .string) (hx : (c.toNat : Int) = x) :
    (convert src dst (.slice (some ⟨w.heap.size, 0, none⟩) 1 1)).run P (w.alloc (.cells #[.int .u8 x] e)) = .ok (.string ⟨#[c]⟩) (w.alloc (.cells #[.int .u8 x] e)) := by
  have hown := World.ownsRow_lit (base := 0) (size := 1) (e := e) w #[.int .u8 x] 1 (Nat.zero_le _) (by unfold maxLen; omega) rfl
  rw [show (#[Value.int .u8 x] : Array Value).toList = byteVals [c] by simp [byteVals, hx]] at hown
  exact conv_bytes hs he hd hown
end Go.Proofs.YtjclhlicginekaaGreatDoor
