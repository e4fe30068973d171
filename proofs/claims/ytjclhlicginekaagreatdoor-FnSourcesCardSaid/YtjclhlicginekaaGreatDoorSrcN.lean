/- The model's reading of a field. -/
import Derived.Test.YtjclhlicginekaaGreatDoorProg
import Derived.Test.YtjclhlicginekaaGreatDoorNum
import Derived.Test.YtjclhlicginekaaGreatDoorSrcM
import Derived.Lib.SplitLaws
namespace Go.Proofs.YtjclhlicginekaaGreatDoor
open Go Go.RowKit
theorem spec_ParseUint_all (s : ByteArray) (hm : s.size ≤ 1048576) (w : World) :
    Calls Tryz.prog 62 #[.string s] w fun e w' => e = .returned (parseR s.data.toList) ∧ Below w.heap.size w w' := by
  by_cases h : s.size ≤ 10
  · exact spec_ParseUint_any s h w
  · exact spec_ParseUint_long s hm (by omega) w
theorem numM_yes {k : Nat} {f : List UInt8} (h1 : (markL k).isPrefixOf f = true) (h2 : isNum (f.drop (markL k).length)) : numM k f = ((dval 0 (f.drop (markL k).length) : Nat) : Int) := by
  classical
  unfold numM numA
  rw [if_pos ⟨h1, h2⟩]; rfl
theorem numM_no {k : Nat} {f : List UInt8} (h : ¬ ((markL k).isPrefixOf f = true ∧ isNum (f.drop (markL k).length))) : numM k f = -1 := by
  classical
  unfold numM numA
  rw [if_neg h]; rfl
theorem numM_small (k : Nat) (f : List UInt8) : -1 ≤ numM k f ∧ numM k f ≤ 1000000000 := by
  by_cases h : (markL k).isPrefixOf f = true ∧ isNum (f.drop (markL k).length)
  · rw [numM_yes h.1 h.2]
    have := h.2.1
    omega
  · rw [numM_no h]; omega
theorem prefix_take (m f : List UInt8) : m.isPrefixOf f = true ↔ f.take m.length = m := by
  rw [List.isPrefixOf_iff_prefix, List.prefix_iff_eq_take]
  exact eq_comm
set_option maxRecDepth 100000 in
theorem spec_Num (k : Nat) (f L : ByteArray) (hL : L.data.toList = markL k) (hf : f.size ≤ 1048576) (w : World) :
    Calls Tryz.prog 43 #[.string f, .string L] w fun e w' => e = .returned (.int .i64 (numM k f.data.toList)) ∧ Below w.heap.size w w' := by
  have hs : L.size = (markL k).length := by rw [← hL]; simp
  have hs1 : L.size ≤ 1 := by rw [hs]; unfold markL; repeat' split
                              all_goals simp
  by_cases hlt : f.size < L.size
  · have hno : numM k f.data.toList = -1 := numM_no fun h => by
      have := (prefix_take _ _).1 h.1
      have := congrArg List.length this
      rw [List.length_take, ← hs] at this
      simp at this; omega
    rw [hno]
    have h1 : (f.size : Int) < L.size := by omega
    clear hL hs hno
    go_enter Tryz.func43, Tryz.ntmps43
    go_wp2_with fail
    go_ret
    exact ⟨rfl, Below.refl _ _⟩
  · have h1 : (L.size : Int) ≤ f.size := by omega
    have h2 : decide ((f.size : Int) < L.size) = false := by simp; omega
    have hpre : (f.extract 0 L.size).data.toList = f.data.toList.take (markL k).length := by rw [Lib.extract_from_zero, hs]
    have hrest : (f.extract L.size f.size).data.toList = f.data.toList.drop (markL k).length := by rw [Lib.extract_to_end, hs]
    have hrs : (f.extract L.size f.size).size ≤ 1048576 := by rw [ByteArray.size_extract]; omega
    by_cases hp : f.extract 0 L.size = L
    · have hp1 : (markL k).isPrefixOf f.data.toList = true := (prefix_take _ _).2 (by rw [← hpre, hp, hL])
      have cp := spec_ParseUint_all (f.extract L.size f.size) hrs w
      rw [hrest] at cp
      by_cases hn : isNum (f.data.toList.drop (markL k).length)
      · rw [parseR_yes hn] at cp
        rw [numM_yes hp1 hn]
        generalize dval 0 (f.data.toList.drop (markL k).length) = x at *
        have Hp := Lib.hid hp
        clear hpre hrest hp1 hn hp hL hs
        have hq := Hp.out
        go_enter Tryz.func43, Tryz.ntmps43
        go_wp2_with fail
        refine cp.mono ?_
        rintro e w1 ⟨rfl, hb⟩
        go_wp2_with fail
        go_ret
        exact ⟨rfl, hb⟩
      · rw [parseR_no hn] at cp
        rw [numM_no fun h => hn h.2]
        have Hp := Lib.hid hp
        clear hpre hrest hp1 hn hp hL hs
        have hq := Hp.out
        go_enter Tryz.func43, Tryz.ntmps43
        go_wp2_with fail
        refine cp.mono ?_
        rintro e w1 ⟨rfl, hb⟩
        go_wp2_with fail
        go_ret
        exact ⟨rfl, hb⟩
    · have hne : (f.extract 0 L.size).data.toList ≠ L.data.toList := fun e => hp (by apply WideShapes.bytes_inj; exact e)
      have hno : numM k f.data.toList = -1 := numM_no fun h => by
        have := (prefix_take _ _).1 h.1
        rw [← hpre, ← hL] at this
        exact hne this
      rw [hno]
      obtain ⟨n1, n2⟩ := str_ne hne
      clear hL hs hno hpre hrest hp hne
      go_enter Tryz.func43, Tryz.ntmps43
      go_wp2_with fail
      go_ret
      exact ⟨rfl, Below.refl _ _⟩
end Go.Proofs.YtjclhlicginekaaGreatDoor
