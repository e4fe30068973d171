/- Tapes in plain numbers: what each call answers. No condition. -/
import Derived.Test.YtfpcjgolcbjnjaaB1
namespace Go.Proofs.Ytfpcjgolcbjnjaa
open Go Go.RowKit
def isTape (s a : Int) : Prop := isWord s ∧ 0 ≤ a ∧ a ≤ 1000000
instance (s a : Int) : Decidable (isTape s a) := by unfold isTape; infer_instance
def isBound (n : Int) : Prop := 1 ≤ n ∧ n ≤ 65536
instance (n : Int) : Decidable (isBound n) := by unfold isBound; infer_instance
/-- One more word can be read. -/
def more (s a : Int) : Prop := isTape s a ∧ a < 1000000
instance (s a : Int) : Decidable (more s a) := by unfold more; infer_instance
def redI (x n : Int) : Int := x / 256 % n
def twI (s a : Int) : Int := if more s a then keyedI s 7 a else 0
def taI (s a : Int) : Int := if more s a then a + 1 else a
def tbI (s a n : Int) : Int := if isBound n ∧ more s a then redI (keyedI s 7 a) n else 0
def tbaI (s a n : Int) : Int := if isBound n ∧ more s a then a + 1 else a
def forkOk (s a n : Int) : Prop := isTape s a ∧ 0 ≤ n ∧ n ≤ 1000000
instance (s a n : Int) : Decidable (forkOk s a n) := by unfold forkOk; infer_instance
def tfI (s a n : Int) : Int := if forkOk s a n then keyedI s 9 n else 0
def listOk (s a n k : Int) : Prop := isTape s a ∧ isBound n ∧ 0 ≤ k ∧ k ≤ 1000 ∧ a + k ≤ 1000000
instance (s a n k : Int) : Decidable (listOk s a n k) := by unfold listOk; infer_instance
def tlN (s a n : Int) (k : Nat) : List Int := (List.range k).map fun (i : Nat) => redI (keyedI s 7 (a + (i : Int))) n
def tlI (s a n k : Int) : List Int := if listOk s a n k then tlN s a n k.toNat else []
def tlaI (s a n k : Int) : Int := if listOk s a n k then a + k else a
theorem tlN_zero (s a n : Int) : tlN s a n 0 = [] := rfl
theorem tlN_length (s a n : Int) (k : Nat) : (tlN s a n k).length = k := by simp [tlN]
theorem tlN_next (s a n : Int) (k : Nat) : tlN s a n (k + 1) = tlN s a n k ++ [redI (keyedI s 7 (a + (k : Int))) n] := by
  simp [tlN, List.range_succ]
theorem tlN_at (s a n : Int) (k i : Nat) (h : i < k) : (tlN s a n k).getD i 0 = redI (keyedI s 7 (a + (i : Int))) n := by
  simp [tlN, List.getD_eq_getElem?_getD, h]
theorem redI_range {x n : Int} (hn : isBound n) : 0 ≤ redI x n ∧ redI x n < n := by
  unfold isBound at hn
  unfold redI
  exact ⟨Int.emod_nonneg _ (by omega), Int.emod_lt_of_pos _ (by omega)⟩
theorem isTape.word {s a : Int} (h : isTape s a) : isWord s := h.1
theorem isTape.range {s a : Int} (h : isTape s a) : 0 ≤ a ∧ a ≤ 1000000 := h.2
end Go.Proofs.Ytfpcjgolcbjnjaa
