/- Marking a slice of ints of the call's own, and asking the marks. -/
import Derived.Test.YtklmhkckhdmelaaProg
import Derived.Test.YtklmhkckhdmelaaInts
namespace Go.Proofs.Ytklmhkckhdmelaa
open Go Go.RowKit
def markInts (k n : Nat) : List Int := (List.range n).map fun j => ((k + j : Nat) : Int)
theorem markInts_length (k n : Nat) : (markInts k n).length = n := by simp [markInts]
theorem markInts_at {k n j : Nat} (h : j < n) : (markInts k n).getD j 0 = ((k + j : Nat) : Int) := by simp [markInts, List.getD_eq_getElem?_getD, h]
theorem markInts_of {ys : List Value} {k n : Nat} (hl : ys.length = n) (h : ∀ j, j < n → ys[j]? = some (.int .i64 ((k + j : Nat) : Int))) : ys = intVals (markInts k n) := by
  apply List.ext_getElem?
  intro j
  rcases Nat.lt_or_ge j n with hj | hj
  · rw [h j hj]; simp [intVals, markInts, hj]
  · rw [List.getElem?_eq_none (by omega), List.getElem?_eq_none (by simp [intVals, markInts]; omega)]
theorem markInts_set {ys : List Value} {k n i : Nat} {u : Value} (hl : ys.length = n) (h : ∀ j, j < i → ys[j]? = some (.int .i64 ((k + j : Nat) : Int))) (hi : i < n) (hu : u = .int .i64 ((k + i : Nat) : Int)) :
    ∀ j, j < i + 1 → (ys.set i u)[j]? = some (.int .i64 ((k + j : Nat) : Int)) := by
  intro j hj
  rcases Nat.lt_or_ge j i with h' | h'
  · rw [List.getElem?_set_ne (by omega)]; exact h j h'
  · obtain rfl : j = i := by omega
    rw [List.getElem?_set_self (by omega), hu]
theorem markIntS_any (base n k : Nat) (v : Value) (xs : List Value) (w : World) (hown : w.ownsRow base 3 1 v n xs) (hn : n + k ≤ 1000000000) :
    Calls Try.prog 30 #[v, .int .i64 (k : Int)] w fun e w' => e = .returned (.int .i64 ((k + n : Nat) : Int)) ∧ w'.ownsRow base 3 1 v n (intVals (markInts k n)) ∧ Below base w w' := by
  obtain ⟨A, m, cp, rfl, rfl⟩ := ownsRow_slice hown
  go_enter Try.func30, Try.ntmps30
  go_wp2_with fail
  go_loopw [1, 5] (fun a i wr => ∃ (j : Nat) (ys : List Value), j ≤ n ∧ a = .int .i64 ((k + j : Nat) : Int) ∧ i = .int .i64 j ∧ wr.ownsRow base 3 1 (.slice A n cp) n ys ∧ Hid (∀ i, i < j → ys[i]? = some (.int .i64 ((k + i : Nat) : Int))) ∧ Below base w wr) (fun _ i _ => n - (intOf i).toNat)
  case atStart => exact ⟨0, xs, Nat.zero_le _, rfl, rfl, hown, fun i hi => by omega, Below.refl _ _⟩
  case round =>
    obtain ⟨j, ys, hj, rfl, rfl, hown, hys, hbr⟩ := hrel
    have hyl : ys.length = n := by have := hown.1; omega
    by_cases hlt : j < n
    · obtain ⟨g, rfl, hg, hgl⟩ := own_addr hown (by omega)
      obtain ⟨u0, hu0⟩ : ∃ u, ys[j]? = some u := ⟨_, List.getElem?_eq_getElem (by omega)⟩
      have hc : wr.cell? ⟨g, j, none⟩ = some u0 := by rw [hown.cellAt j (by omega)]; exact hu0
      clear hu0
      have hf := hown.frozenAt j
      have hst := hown.stored j (.int .i64 ((k + j : Nat) : Int))
      have hb2 : Below base w (wr.setCell ⟨g, j, none⟩ (.int .i64 ((k + j : Nat) : Int))) := hbr.setCell hg _
      have Hys := Lib.hid (markInts_set hyl hys.out hlt rfl)
      have Hst := Lib.hid hst.1
      have Hb2 := Lib.hid hb2
      have hj0 : (0 : Int) ≤ j := by omega
      have hj1 : (j : Int) < n := by omega
      clear hst hb2 hown hyl hys
      go_wp2_with fail
      go_roundw
      case rel => exact ⟨j + 1, _, by omega, by go_num, by go_num, Hst.out, Hys.out, Hb2.out⟩
      case measure => simp [intOf]; omega
    · obtain rfl : j = n := by omega
      have hm := markInts_of hyl hys.out
      subst hm
      have Hown := Lib.hid hown
      clear hown hyl
      go_wp2_with fail
      go_ret
      exact ⟨by first | rfl | simp, Hown.out, hbr⟩
theorem heldIntS_any (n k cp : Nat) (A : Option Addr) (w : World) (hr : Ints w A (markInts k n)) (hn : n + k ≤ 1000000000) :
    Calls Try.prog 31 #[.slice A n cp, .int .i64 (k : Int)] w fun e w' => e = .returned (.int .i64 ((k + n : Nat) : Int)) ∧ w = w' := by
  go_enter Try.func31, Try.ntmps31
  go_wp2_with fail
  go_loop [1, 5] (fun a i => ∃ j : Nat, j ≤ n ∧ a = .int .i64 ((k + j : Nat) : Int) ∧ i = .int .i64 j) (fun _ i => n - (intOf i).toNat)
  case atStart => exact ⟨0, Nat.zero_le _, rfl, rfl⟩
  case round =>
    obtain ⟨j, hj, rfl, rfl⟩ := hrel
    by_cases hlt : j < n
    · obtain ⟨b, o, rfl, hbl, hc⟩ := hr.at_ (j := j) (by rw [markInts_length]; exact hlt)
      rw [markInts_at hlt] at hc
      have hj0 : (0 : Int) ≤ j := by omega
      have hj1 : (j : Int) < n := by omega
      clear hr
      go_wp2_with fail
      go_round
      case rel => exact ⟨j + 1, by omega, by go_num, by go_num⟩
      case measure => simp [intOf]; omega
    · obtain rfl : j = n := by omega
      go_wp2_with fail
      go_ret
      exact ⟨by first | rfl | simp, rfl⟩
end Go.Proofs.Ytklmhkckhdmelaa
