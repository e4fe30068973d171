/- The model's FormatStmt. -/
import Derived.Test.YtjclhlicginekaaGreatDoorProg
import Derived.Test.YtjclhlicginekaaGreatDoorSrcS
namespace Go.Proofs.YtjclhlicginekaaGreatDoor
open Go Go.RowKit
theorem ba_eq {t : ByteArray} {l : List UInt8} (h : t.data.toList = l) : t = ⟨l.toArray⟩ := by apply WideShapes.bytes_inj; simp [h]
theorem tup_eq {t : ByteArray} {l : List UInt8} {b : Bool} (h : t.data.toList = l) : Ending.returned (.tuple #[.string t, .bool b]) = .returned (.tuple #[.string ⟨l.toArray⟩, .bool b]) := by rw [ba_eq h]
theorem reg_size {x : Int} (h0 : 0 ≤ x) (h1 : x ≤ 15) : (({ data := #[32, 114] } : ByteArray) ++ ⟨(Lib.itoa x).toArray⟩).size ≤ 4 := by
  have hl : (⟨(Lib.itoa x).toArray⟩ : ByteArray).size ≤ 2 := by show (Lib.itoa x).toArray.size ≤ 2; simpa using itoa_len h0 h1
  rw [ByteArray.size_append]
  have : ({ data := #[32, 114] } : ByteArray).size = 2 := rfl
  omega
theorem num_size {x : Int} (h0 : 0 ≤ x) (h1 : x ≤ 15) : (⟨(Lib.itoa x).toArray⟩ : ByteArray).size ≤ 4 := by
  show (Lib.itoa x).toArray.size ≤ 4
  have := itoa_len h0 h1
  simp; omega
theorem word_size (u : Nat) (h1 : 1 ≤ u) (h2 : u ≤ 13) : (⟨(wordL u).toArray⟩ : ByteArray).size ≤ 5 := by
  show (wordL u).toArray.size ≤ 5
  simpa using (word_good u h1 h2).2
theorem itoa_any (x : Int) (h0 : 0 ≤ x) (h1 : x ≤ 15) : ∀ w, Calls Tryz.prog 64 #[.int .i64 x] w fun e w' => e = .returned (.string ⟨(Lib.itoa x).toArray⟩) ∧ Below w.heap.size w w' :=
  fun w => spec_FormatInt_any x ⟨by omega, by omega⟩ w
/-- What FormatStmt answers. -/
noncomputable def fmtS (s : St) : ByteArray := if s.ok then ⟨(fmtL s).toArray⟩ else ⟨#[]⟩
set_option maxRecDepth 100000 in
theorem spec_FormatStmt_no (op d a b c n : Int) (w : World) (hs : ¬ St.ok ⟨op, d, a, b, c, n⟩) :
    Calls Tryz.prog 45 #[.agg #[.int .i64 op, .int .i64 d, .int .i64 a, .int .i64 b, .int .i64 c, .int .i64 n]] w fun e w' => e = .returned (.tuple #[.string ⟨#[]⟩, .bool false]) ∧ Below w.heap.size w w' := by
  have ok := spec_StmtOk op d a b c n
  rw [decide_eq_false (show ¬ okI op d a b c n from hs)] at ok
  clear hs
  go_enter Tryz.func45, Tryz.ntmps45
  go_wp2_with fail
  refine (ok _).mono ?_
  rintro e w1 ⟨rfl, hb⟩
  have b0 : Below w.heap.size w w1 := (below_alloc _ _).trans (hb.mono (by simp))
  clear hb ok
  go_wp2_with fail
  go_ret2
  exact ⟨rfl, b0⟩
theorem spec_FormatStmt_yes (op d a b c n : Int) (w : World) (hs : St.ok ⟨op, d, a, b, c, n⟩) :
    Calls Tryz.prog 45 #[.agg #[.int .i64 op, .int .i64 d, .int .i64 a, .int .i64 b, .int .i64 c, .int .i64 n]] w fun e w' => e = .returned (.tuple #[.string ⟨(fmtL ⟨op, d, a, b, c, n⟩).toArray⟩, .bool true]) ∧ Below w.heap.size w w' := by
  have ok := spec_StmtOk op d a b c n
  rw [decide_eq_true (show okI op d a b c n from hs)] at ok
  obtain ⟨o1, o2⟩ := opN_range hs
  have o3 := op_range hs
  have fd := fld_range hs 0
  have fa := fld_range hs 1
  have fb := fld_range hs 2
  have fc := fld_range hs 3
  have fn := fld_range hs 5
  simp only [fldI] at fd fa fb fc fn
  simp at fd fa fb fc fn
  simp only at o1 o2 o3
  obtain ⟨u, rfl⟩ : ∃ u : Nat, op = (u : Int) := Int.eq_ofNat_of_zero_le (by omega)
  simp only [Int.toNat_natCast] at o1 o2
  have cw := fun w => spec_Word u o1 o2 w
  have hc : u = 1 ∨ u = 2 ∨ u = 10 ∨ u = 11 ∨ u = 12 ∨ u = 13 ∨ (3 ≤ u ∧ u ≤ 9) := by omega
  rcases hc with rfl | rfl | rfl | rfl | rfl | rfl | ⟨hl, hh⟩
  · refine (spec_fmt_const d a b c n _ _ _ w cw (spec_Reg d fd.1 fd.2) (itoa_any n fn.1 fn.2) (word_size 1 o1 o2) (reg_size fd.1 fd.2) (num_size fn.1 fn.2) ok).mono ?_
    rintro e w' ⟨rfl, hb⟩
    exact ⟨tup_eq (by simp [fmtL, argsN, argT, markL, fldI]), hb⟩
  · refine (spec_fmt_input d a b c n _ _ _ _ w cw (itoa_any a fa.1 fa.2) (spec_Reg d fd.1 fd.2) (itoa_any n fn.1 fn.2) (word_size 2 o1 o2) (num_size fa.1 fa.2) (reg_size fd.1 fd.2) (num_size fn.1 fn.2) ok).mono ?_
    rintro e w' ⟨rfl, hb⟩
    exact ⟨tup_eq (by simp [fmtL, argsN, argT, markL, fldI]), hb⟩
  · refine (spec_fmt_mux d a b c n _ _ _ _ _ w cw (spec_Reg a fa.1 fa.2) (spec_Reg b fb.1 fb.2) (spec_Reg c fc.1 fc.2) (spec_Reg d fd.1 fd.2) (word_size 10 o1 o2) (reg_size fa.1 fa.2) (reg_size fb.1 fb.2) (reg_size fc.1 fc.2) (reg_size fd.1 fd.2) ok).mono ?_
    rintro e w' ⟨rfl, hb⟩
    exact ⟨tup_eq (by simp [fmtL, argsN, argT, markL, fldI]), hb⟩
  · refine (spec_fmt_out d a b c n _ _ w cw (spec_Reg a fa.1 fa.2) (word_size 11 o1 o2) (reg_size fa.1 fa.2) ok).mono ?_
    rintro e w' ⟨rfl, hb⟩
    exact ⟨tup_eq (by simp [fmtL, argsN, argT, markL, fldI]), hb⟩
  · refine (spec_fmt_loop d a b c n _ _ w cw (itoa_any n fn.1 fn.2) (word_size 12 o1 o2) (num_size fn.1 fn.2) ok).mono ?_
    rintro e w' ⟨rfl, hb⟩
    exact ⟨tup_eq (by simp [fmtL, argsN, argT, markL, fldI]), hb⟩
  · refine (spec_fmt_end d a b c n _ w cw (word_size 13 o1 o2) ok).mono ?_
    rintro e w' ⟨rfl, hb⟩
    exact ⟨tup_eq (by simp [fmtL, argsN]), hb⟩
  · have ha : argsN u = [0, 1, 2] := by
      have hc : u = 3 ∨ u = 4 ∨ u = 5 ∨ u = 6 ∨ u = 7 ∨ u = 8 ∨ u = 9 := by omega
      rcases hc with rfl | rfl | rfl | rfl | rfl | rfl | rfl <;> rfl
    refine (spec_fmt_bin u d a b c n _ _ _ _ w (by omega) (by omega) cw (spec_Reg a fa.1 fa.2) (spec_Reg b fb.1 fb.2) (spec_Reg d fd.1 fd.2) (word_size u o1 o2) (reg_size fa.1 fa.2) (reg_size fb.1 fb.2) (reg_size fd.1 fd.2) ok).mono ?_
    rintro e w' ⟨rfl, hb⟩
    exact ⟨tup_eq (by simp [fmtL, ha, argT, markL, fldI]), hb⟩
end Go.Proofs.YtjclhlicginekaaGreatDoor
