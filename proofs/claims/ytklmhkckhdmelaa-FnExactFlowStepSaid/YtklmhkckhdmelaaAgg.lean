/- Structs of ints, by value and in a slice, as the laws' frames open them. No condition. -/
import Derived.Test.YtklmhkckhdmelaaProg
import Derived.Test.YtklmhkckhdmelaaIntsX
import Derived.Test.YtklmhkckhdmelaaStmtA
import Derived.Deep.Slices
import Derived.Deep.Fields
import Derived.ChangeSame
import Derived.ChangeArms
namespace Go.Proofs.Ytklmhkckhdmelaa
open Go Go.RowKit Go.ChangeShapes Go.WideShapes
section
variable {H : Type} {enc : TypeId × Value → H} {P : Program} {w : World} {base : Nat} {spare : Nat → Bool} {held : Bool}
/-- The cells of a struct whose fields are all ints. -/
theorem cells_ints {t ti : TypeId} {fs : Array Field} {fuel : Nat} {cs : List Value} {x : DataW H × List MemPlace} (hs : P.underlying t = some (.struct fs)) (ht : P.underlying ti = some (.int .i64)) (hone : Go.Deep.oneCellFields P fs = true)
    (hall : fs.all (fun f => f.type == ti) = true) (hC : P.cellsOf t = fs.size) (h : DataW.trod enc P w base spare held fuel t cs = some x) :
    ∃ zs : List Int, cs = intVals zs ∧ zs.length = fs.size ∧ ∀ z ∈ zs, (Lit.int .i64 z).wf = true := by
  obtain ⟨xs, m, _, _, hl, hlen, hg⟩ := DataW.trod_struct hs h
  rw [hC] at hl
  have key : ∀ i, i < fs.size → ∃ z, cs[i]? = some (.int .i64 z) ∧ (Lit.int .i64 z).wf = true := by
    intro i hi
    have hf : fs[i]? = some fs[i] := Array.getElem?_eq_getElem hi
    obtain ⟨ho, hk⟩ := Go.Deep.hone_of hone i fs[i] hf
    have htf : fs[i].type = ti := by
      have := Array.all_eq_true.1 hall i hi
      simpa using this
    have h1 := hg i fs[i] hf
    rw [ho, hk, htf, List.getElem?_eq_getElem (show i < xs.length by omega)] at h1
    obtain ⟨z, hz, _, hw⟩ := DataW.trod_int ht h1
    refine ⟨z, ?_, hw⟩
    have e : ((cs.drop i).take 1)[0]? = some (.int .i64 z) := by rw [hz]; rfl
    simpa [List.getElem?_take, List.getElem?_drop] using e
  refine ⟨cs.map fun v => match v with | .int _ z => z | _ => 0, ?_, by rw [List.length_map, hl], ?_⟩
  · apply List.ext_getElem?
    intro i
    by_cases hi : i < fs.size
    · obtain ⟨z, hz, _⟩ := key i hi
      simp [intVals, hz]
    · simp [intVals, List.getElem?_eq_none (show cs.length ≤ i by omega)]
  · intro z hz
    obtain ⟨v, hv, rfl⟩ := List.mem_map.1 hz
    obtain ⟨i, hi, rfl⟩ := List.mem_iff_getElem.1 hv
    obtain ⟨z, hz', hw⟩ := key i (by omega)
    rw [List.getElem?_eq_getElem hi] at hz'
    injection hz' with hz'
    rw [hz']
    exact hw
theorem len_six {zs : List Int} (h : zs.length = 6) : ∃ a b c d e f, zs = [a, b, c, d, e, f] := by
  match zs, h with
  | [a, b, c, d, e, f], _ => exact ⟨a, b, c, d, e, f, rfl⟩
/-- A struct of six ints, by value. -/
theorem agg_six {r : Reach} {b0 : Nat} {t ti : TypeId} {fs : Array Field} {v : Value} {d : DataW H} {p : List MemPlace} (hs : P.underlying t = some (.struct fs)) (ht : P.underlying ti = some (.int .i64)) (hone : Go.Deep.oneCellFields P fs = true)
    (hall : fs.all (fun f => f.type == ti) = true) (hC : P.cellsOf t = fs.size) (h6 : fs.size = 6) (hv : Value.okWide P w r b0 t v) (h : DataW.Trod enc P w base spare held t v d p) :
    ∃ a0 a1 a2 a3 a4 a5 : Int, v = .agg #[.int .i64 a0, .int .i64 a1, .int .i64 a2, .int .i64 a3, .int .i64 a4, .int .i64 a5] ∧ (Lit.int .i64 a0).wf = true ∧ (Lit.int .i64 a1).wf = true ∧ (Lit.int .i64 a2).wf = true ∧ (Lit.int .i64 a3).wf = true ∧ (Lit.int .i64 a4).wf = true ∧ (Lit.int .i64 a5).wf = true := by
  obtain ⟨cs, rfl, hsz⟩ := okWide_struct hs hv
  obtain ⟨fuel, hf⟩ := h
  obtain ⟨zs, hz, hl, hw⟩ := cells_ints hs ht hone hall hC hf
  obtain ⟨a0, a1, a2, a3, a4, a5, rfl⟩ := len_six (hl.trans h6)
  refine ⟨a0, a1, a2, a3, a4, a5, ?_, hw _ (by simp), hw _ (by simp), hw _ (by simp), hw _ (by simp), hw _ (by simp), hw _ (by simp)⟩
  have : cs.toList = intVals [a0, a1, a2, a3, a4, a5] := by simpa [Value.cells] using hz
  congr 1
  exact Array.ext' this
/-- A slice of structs of six ints. -/
theorem slice_six {t e ti : TypeId} {fs : Array Field} {A : Option Addr} {len cap : Nat} {d : DataW H} {p : List MemPlace} (hsl : P.underlying t = some (.slice e)) (hs : P.underlying e = some (.struct fs)) (ht : P.underlying ti = some (.int .i64)) (hone : Go.Deep.oneCellFields P fs = true)
    (hall : fs.all (fun f => f.type == ti) = true) (hC : P.cellsOf e = fs.size) (h6 : fs.size = 6) (h : DataW.Trod enc P w base spare held t (.slice A len cap) d p) :
    ∃ ss : List St, Ints w A (flat ss) ∧ ss.length = len ∧ len ≤ 9223372036854775807 := by
  obtain ⟨fuel, hf⟩ := h
  rcases Go.Deep.open_slice hsl hf with ⟨hcs, _⟩ | ⟨x, l, c, m, n, D, Pl, hcs, hb, hlc, hm, hmm, hx, hi⟩
  · simp [Value.cells] at hcs
    obtain ⟨rfl, rfl, rfl⟩ := hcs
    exact ⟨[], Ints.nil _ _, rfl, by omega⟩
  · simp [Value.cells] at hcs
    obtain ⟨rfl, rfl, rfl⟩ := hcs
    have hlm : len ≤ m := by rw [hmm]; split <;> omega
    have key : ∀ k, k ≤ len → ∃ ss : List St, ss.length = k ∧ ∀ j, j < k * 6 → w.cell? (x.add j) = some (.int .i64 ((flat ss).getD j 0)) := by
      intro k
      induction k with
      | zero => exact fun _ => ⟨[], rfl, fun j hj => by omega⟩
      | succ k ih =>
        intro hk
        obtain ⟨ss, hl, hc⟩ := ih (by omega)
        obtain ⟨cs', hcs', htr⟩ := hi k (by omega)
        obtain ⟨zs, hz, hl6, hw⟩ := cells_ints hs ht hone hall hC htr
        obtain ⟨a0, a1, a2, a3, a4, a5, rfl⟩ := len_six (hl6.trans h6)
        rw [hC, h6] at hcs'
        obtain ⟨_, _, hcell⟩ := World.cells?_some hcs'
        refine ⟨ss ++ [⟨a0, a1, a2, a3, a4, a5⟩], by simp [hl], fun j hj => ?_⟩
        have hfl : (flat ss).length = k * 6 := by rw [flat_length, hl]
        rw [flat_append]
        by_cases hjk : j < k * 6
        · rw [hc j hjk, List.getD_eq_getElem?_getD, List.getD_eq_getElem?_getD, List.getElem?_append_left (by omega)]
        · rw [List.getD_eq_getElem?_getD, List.getElem?_append_right (by omega), hfl, ← List.getD_eq_getElem?_getD]
          have h1 := hcell (j - k * 6) (by omega)
          rw [Go.Deep.add_add, show k * 6 + (j - k * 6) = j by omega, hz] at h1
          rw [h1]
          have h6 : j - k * 6 = 0 ∨ j - k * 6 = 1 ∨ j - k * 6 = 2 ∨ j - k * 6 = 3 ∨ j - k * 6 = 4 ∨ j - k * 6 = 5 := by omega
          rcases h6 with e | e | e | e | e | e <;> rw [e] <;> rfl
    obtain ⟨ss, hl, hc⟩ := key len (Nat.le_refl _)
    refine ⟨ss, ?_, hl, by unfold maxLen at hm; omega⟩
    have hfl : (flat ss).length = len * 6 := by rw [flat_length, hl]
    exact (Ints.of_row (w := w) (x := x) (len := len * 6) (cap := len * 6) (zs := flat ss) (Nat.le_refl _) hfl (fun i hi => hc i (by omega))).1 |> fun h => by rwa [List.take_of_length_le (by omega)] at h
end
end Go.Proofs.Ytklmhkckhdmelaa
