/- The sets of some registers, joined, by the program. No condition. -/
import Derived.Test.YtklmhkckhdmelaaProg
import Derived.Test.YtklmhkckhdmelaaFlowM
import Derived.Test.YtklmhkckhdmelaaGrow
namespace Go.Proofs.Ytklmhkckhdmelaa
open Go Go.RowKit
theorem eight {l : List Int} (h : l.length = 8) : ∃ a b c d e f g i : Int, l = [a, b, c, d, e, f, g, i] := by
  match l, h with
  | [a, b, c, d, e, f, g, i], _ => exact ⟨a, b, c, d, e, f, g, i, rfl⟩
/-- Eight numbers as cells. -/
def cells8 (l : List Int) : Array Value := (intVals l).toArray
theorem cells8_at {l : List Int} {k : Nat} (hk : k < l.length) : (cells8 l)[k]? = some (.int .i64 (l.getD k 0)) := by
  simp [cells8, intVals, List.getElem?_map, List.getD_eq_getElem?_getD, List.getElem?_eq_getElem hk]
def inRegs (l : List Int) : Prop := ∀ z ∈ l, 0 ≤ z ∧ z ≤ 7
theorem inRegs.at_ {l : List Int} (h : inRegs l) {k : Nat} (hk : k < l.length) : 0 ≤ l.getD k 0 ∧ l.getD k 0 ≤ 7 := by
  rw [List.getD_eq_getElem?_getD, List.getElem?_eq_getElem hk]
  exact h _ (List.getElem_mem hk)
set_option maxRecDepth 100000 in
theorem impl_union (rs : List Int) (h8 : rs.length = 8) (A : Option Addr) (n c : Nat) (xs : List Int) (w : World) (hx : Ints w A xs) (lx : xs.length = n) (mx : n ≤ 2000000) (hr : inRegs xs) :
    Calls Try.prog 46 #[.agg (cells8 rs), .slice A n c] w fun e w' => e = .returned (.int .i64 (orAll rs xs 0)) ∧ Below w.heap.size w w' := by
  have b0 := heap_alloc_new w (.cells (cells8 rs) 76)
  have low := (Below.refl w.heap.size w).alloc (Nat.le_refl _) (.cells (cells8 rs) 76)
  have LX := Lib.hid lx
  have H8 := Lib.hid h8
  clear lx h8
  generalize hcs : cells8 rs = cs at *
  have Hcs := Lib.hid hcs
  clear hcs
  go_enter Try.func46, Try.ntmps46
  go_wp2_with fail
  generalize hw0 : w.alloc (.cells cs 76) = w0 at *
  clear hw0
  have hx0 := (hx.bound.below low).ints low.size
  clear hx
  go_loopw [5, 10] (fun v i wr => ∃ k : Nat, k ≤ n ∧ i = .int .i64 k ∧ v = .int .i64 (orAll rs (xs.take k) 0) ∧ Hid (wr = w0)) (fun _ i _ => n - (intOf i).toNat)
  case atStart => exact ⟨0, Nat.zero_le _, rfl, rfl, Lib.hid rfl⟩
  case round =>
    obtain ⟨k, hk, rfl, rfl, hw⟩ := hrel
    obtain rfl : w0 = wr := hw.out.symm
    clear hw
    by_cases hlt : k < n
    · have hkl : k < xs.length := by rw [LX.out]; exact hlt
      obtain ⟨g, o, rfl, _, hc⟩ := hx0.at_ hkl
      obtain ⟨r0, r7⟩ := hr.at_ hkl
      have hstep := Lib.hid (orAll_step (rs := rs) hkl 0)
      generalize hz : xs.getD k 0 = r at hc r0 r7 hstep
      have hcell := (blk (i := r.toNat) b0 (by rw [← Hcs.out]; exact cells8_at (by rw [H8.out]; omega))).1
      generalize orAll rs (xs.take k) 0 = acc at *
      generalize rs.getD r.toNat 0 = y at *
      have Hz := Lib.hid hz
      have hk0 : (0 : Int) ≤ k := by omega
      have hk1 : (k : Int) < n := by omega
      have r8 : r < 8 := by omega
      clear hx0 hz hkl hr r7
      go_wp2_with fail
      go_roundw
      case rel => exact ⟨k + 1, by omega, by go_num, by rw [hstep.out], Lib.hid (by trivial)⟩
      case measure => simp [intOf]; omega
    · obtain rfl : k = n := by omega
      have hall : xs.take k = xs := List.take_of_length_le (by rw [LX.out]; exact Nat.le_refl _)
      rw [hall]
      go_wp2_with fail
      go_ret
      exact ⟨rfl, low⟩
theorem impl_union8 (r0 r1 r2 r3 r4 r5 r6 r7 : Int) (A : Option Addr) (n c : Nat) (xs : List Int) (w : World) (hx : Ints w A xs) (lx : xs.length = n) (mx : n ≤ 2000000) (hr : inRegs xs) :
    Calls Try.prog 46 #[.agg #[.int .i64 r0, .int .i64 r1, .int .i64 r2, .int .i64 r3, .int .i64 r4, .int .i64 r5, .int .i64 r6, .int .i64 r7], .slice A n c] w fun e w' => e = .returned (.int .i64 (orAll [r0, r1, r2, r3, r4, r5, r6, r7] xs 0)) ∧ Below w.heap.size w w' :=
  impl_union [r0, r1, r2, r3, r4, r5, r6, r7] rfl A n c xs w hx lx mx hr
end Go.Proofs.Ytklmhkckhdmelaa
