/- What the rows lay, read off: the library's tables and sentinel errors. -/
import Derived.Test.YtjclhlicginekaaDoorTie
import Derived.Test.YtjclhlicginekaaDoorEnv
import Derived.Deep.DeepHandedRow
import Derived.Lib.LaidTab
import Derived.Stop.LaidErr
import Derived.LaidLaws
import Derived.WalkKit
import Derived.ProofKit
namespace Go.Proofs.YtjclhlicginekaaDoor
open Go Go.RowKit Go.ChangeShapes
set_option maxRecDepth 100000
noncomputable def lowBlocks : Nat := (World.holding Tryd.prog default ⟨#[], #[], []⟩).heap.size
noncomputable def laidWorld (os : Os) : World :=
  { World.holding Tryd.prog os ⟨#[.cells #[.string ⟨#[118, 97, 108, 117, 101, 32, 111, 117, 116, 32, 111, 102, 32, 114, 97, 110, 103, 101]⟩] 138, .cells #[.string ⟨#[105, 110, 118, 97, 108, 105, 100, 32, 115, 121, 110, 116, 97, 120]⟩] 138], #[], []⟩ with heap := ((((((World.holding Tryd.prog os ⟨#[.cells #[.string ⟨#[118, 97, 108, 117, 101, 32, 111, 117, 116, 32, 111, 102, 32, 114, 97, 110, 103, 101]⟩] 138, .cells #[.string ⟨#[105, 110, 118, 97, 108, 105, 100, 32, 115, 121, 110, 116, 97, 120]⟩] 138], #[], []⟩).heap.modify 0 (fun (o : Obj) => match o with | .cells _ t frozen => Obj.cells #[Value.int .u64 1, Value.int .u64 10, Value.int .u64 100, Value.int .u64 1000, Value.int .u64 10000, Value.int .u64 100000, Value.int .u64 1000000, Value.int .u64 10000000, Value.int .u64 100000000, Value.int .u64 1000000000, Value.int .u64 10000000000, Value.int .u64 100000000000, Value.int .u64 1000000000000, Value.int .u64 10000000000000, Value.int .u64 100000000000000, Value.int .u64 1000000000000000, Value.int .u64 10000000000000000, Value.int .u64 100000000000000000, Value.int .u64 1000000000000000000, Value.int .u64 10000000000000000000] t frozen | o => o)).modify 3 (fun (o : Obj) => match o with | .cells _ t frozen => Obj.cells #[Value.int .u8 0, Value.int .u8 1, Value.int .u8 28, Value.int .u8 2, Value.int .u8 29, Value.int .u8 14, Value.int .u8 24, Value.int .u8 3, Value.int .u8 30, Value.int .u8 22, Value.int .u8 20, Value.int .u8 15, Value.int .u8 25, Value.int .u8 17, Value.int .u8 4, Value.int .u8 8, Value.int .u8 31, Value.int .u8 27, Value.int .u8 13, Value.int .u8 23, Value.int .u8 21, Value.int .u8 19, Value.int .u8 16, Value.int .u8 7, Value.int .u8 26, Value.int .u8 12, Value.int .u8 18, Value.int .u8 6, Value.int .u8 11, Value.int .u8 5, Value.int .u8 10, Value.int .u8 9] t frozen | o => o)).modify 4 (fun (o : Obj) => match o with | .cells _ t frozen => Obj.cells #[Value.int .u8 0, Value.int .u8 1, Value.int .u8 56, Value.int .u8 2, Value.int .u8 57, Value.int .u8 49, Value.int .u8 28, Value.int .u8 3, Value.int .u8 61, Value.int .u8 58, Value.int .u8 42, Value.int .u8 50, Value.int .u8 38, Value.int .u8 29, Value.int .u8 17, Value.int .u8 4, Value.int .u8 62, Value.int .u8 47, Value.int .u8 59, Value.int .u8 36, Value.int .u8 45, Value.int .u8 43, Value.int .u8 51, Value.int .u8 22, Value.int .u8 53, Value.int .u8 39, Value.int .u8 33, Value.int .u8 30, Value.int .u8 24, Value.int .u8 18, Value.int .u8 12, Value.int .u8 5, Value.int .u8 63, Value.int .u8 55, Value.int .u8 48, Value.int .u8 27, Value.int .u8 60, Value.int .u8 41, Value.int .u8 37, Value.int .u8 16, Value.int .u8 46, Value.int .u8 35, Value.int .u8 44, Value.int .u8 21, Value.int .u8 52, Value.int .u8 32, Value.int .u8 23, Value.int .u8 11, Value.int .u8 54, Value.int .u8 26, Value.int .u8 40, Value.int .u8 15, Value.int .u8 34, Value.int .u8 20, Value.int .u8 31, Value.int .u8 10, Value.int .u8 25, Value.int .u8 14, Value.int .u8 19, Value.int .u8 9, Value.int .u8 13, Value.int .u8 8, Value.int .u8 7, Value.int .u8 6] t frozen | o => o)).modify 2 (fun (o : Obj) => match o with | .cells _ t frozen => Obj.cells #[Value.iface 136 (.pointer (some ⟨lowBlocks + 0, 0, none⟩))] t frozen | o => o)).modify 1 (fun (o : Obj) => match o with | .cells _ t frozen => Obj.cells #[Value.iface 136 (.pointer (some ⟨lowBlocks + 1, 0, none⟩))] t frozen | o => o)) }
theorem g_internal_strconv_uint64pow10 : Tryd.prog.globalNamed "internal/strconv.uint64pow10" = some 0 := by kernel_rfl
theorem gt_internal_strconv_uint64pow10 : (Tryd.prog.globals[0]?).map (·.type) = some 124 := by kernel_rfl
theorem g_math_bits_deBruijn32tab : Tryd.prog.globalNamed "math/bits.deBruijn32tab" = some 3 := by kernel_rfl
theorem gt_math_bits_deBruijn32tab : (Tryd.prog.globals[3]?).map (·.type) = some 139 := by kernel_rfl
theorem g_math_bits_deBruijn64tab : Tryd.prog.globalNamed "math/bits.deBruijn64tab" = some 4 := by kernel_rfl
theorem gt_math_bits_deBruijn64tab : (Tryd.prog.globals[4]?).map (·.type) = some 140 := by kernel_rfl
theorem g_strconv_ErrRange : Tryd.prog.globalNamed "strconv.ErrRange" = some 2 := by kernel_rfl
theorem gt_strconv_ErrRange : (Tryd.prog.globals[2]?).map (·.type) = some 56 := by kernel_rfl
theorem g_strconv_ErrSyntax : Tryd.prog.globalNamed "strconv.ErrSyntax" = some 1 := by kernel_rfl
theorem gt_strconv_ErrSyntax : (Tryd.prog.globals[1]?).map (·.type) = some 56 := by kernel_rfl
theorem star : "*" ++ "errors.errorString" = "*errors.errorString" := by decide
theorem ptrRow (u : TypeId) (h : Tryd.prog.typeName? 3 u = some "*errors.errorString") : u = 136 :=
  typeName_ptr_named (nm := "errors.errorString") (by rw [star]; kernel_rfl) (by kernel_rfl) (by decide) u (by rw [star]; exact h)
theorem tab_fnExactFormatProgramRow {W : World} (h : laidMet Tryd.prog Rows.fnExactFormatProgramRow.laid W) : TabOk W := by
  have h2 := (h.tail.tail)
  have e : (Rows.laid_internal_strconv_uint64pow10 : DataW Unit) = Lib.tabData .u64 Lib.pow10Tab := by kernel_rfl
  rw [e] at h2
  exact Lib.tabIs_of_head g_internal_strconv_uint64pow10 gt_internal_strconv_uint64pow10 Tryd.underlying124 Tryd.underlying111 (by kernel_rfl) (by kernel_rfl) h2
theorem size_fnExactFormatProgramRow {W : World} (h : laidMet Tryd.prog Rows.fnExactFormatProgramRow.laid W) : 5 ≤ W.heap.size := by
  obtain ⟨_, ⟨g, _, cs, _, _, _, hg, _, hv, _, _, _⟩, _⟩ := (h.tail)
  have e := Option.some.inj (g_math_bits_deBruijn64tab.symm.trans hg)
  have := World.var?_cell hg hv 0
  exact globals_le g_math_bits_deBruijn64tab hv (by omega)
theorem tab_fnExactFormatStmtRow {W : World} (h : laidMet Tryd.prog Rows.fnExactFormatStmtRow.laid W) : TabOk W := by
  have h2 := (h.tail.tail)
  have e : (Rows.laid_internal_strconv_uint64pow10 : DataW Unit) = Lib.tabData .u64 Lib.pow10Tab := by kernel_rfl
  rw [e] at h2
  exact Lib.tabIs_of_head g_internal_strconv_uint64pow10 gt_internal_strconv_uint64pow10 Tryd.underlying124 Tryd.underlying111 (by kernel_rfl) (by kernel_rfl) h2
theorem size_fnExactFormatStmtRow {W : World} (h : laidMet Tryd.prog Rows.fnExactFormatStmtRow.laid W) : 5 ≤ W.heap.size := by
  obtain ⟨_, ⟨g, _, cs, _, _, _, hg, _, hv, _, _, _⟩, _⟩ := (h.tail)
  have e := Option.some.inj (g_math_bits_deBruijn64tab.symm.trans hg)
  have := World.var?_cell hg hv 0
  exact globals_le g_math_bits_deBruijn64tab hv (by omega)
theorem tab_fnExactParseStmtRow {W : World} (h : laidMet Tryd.prog Rows.fnExactParseStmtRow.laid W) : TabOk W := by
  have h2 := (h.tail.tail)
  have e : (Rows.laid_internal_strconv_uint64pow10 : DataW Unit) = Lib.tabData .u64 Lib.pow10Tab := by kernel_rfl
  rw [e] at h2
  exact Lib.tabIs_of_head g_internal_strconv_uint64pow10 gt_internal_strconv_uint64pow10 Tryd.underlying124 Tryd.underlying111 (by kernel_rfl) (by kernel_rfl) h2
theorem size_fnExactParseStmtRow {W : World} (h : laidMet Tryd.prog Rows.fnExactParseStmtRow.laid W) : 5 ≤ W.heap.size := by
  obtain ⟨_, ⟨g, _, cs, _, _, _, hg, _, hv, _, _, _⟩, _⟩ := (h.tail)
  have e := Option.some.inj (g_math_bits_deBruijn64tab.symm.trans hg)
  have := World.var?_cell hg hv 0
  exact globals_le g_math_bits_deBruijn64tab hv (by omega)
theorem err_strconv_ErrRange_fnExactParseStmtRow {W : World} (h : laidMet Tryd.prog Rows.fnExactParseStmtRow.laid W) : ∃ tp p, W.var? Tryd.prog "strconv.ErrRange" = some #[.iface tp p] := by
  obtain ⟨a0, s0, hv0, _, _, _⟩ := laid_sentinel (h.tail.tail.tail) g_strconv_ErrRange gt_strconv_ErrRange Tryd.underlying56 ptrRow Tryd.underlying136 Tryd.underlying138 rfl rfl Tryd.underlying9 (by kernel_rfl) (by kernel_rfl)
  exact ⟨_, _, hv0⟩
theorem err_strconv_ErrSyntax_fnExactParseStmtRow {W : World} (h : laidMet Tryd.prog Rows.fnExactParseStmtRow.laid W) : ∃ tp p, W.var? Tryd.prog "strconv.ErrSyntax" = some #[.iface tp p] := by
  obtain ⟨a0, s0, hv0, _, _, _⟩ := laid_sentinel (h.tail.tail.tail.tail) g_strconv_ErrSyntax gt_strconv_ErrSyntax Tryd.underlying56 ptrRow Tryd.underlying136 Tryd.underlying138 rfl rfl Tryd.underlying9 (by kernel_rfl) (by kernel_rfl)
  exact ⟨_, _, hv0⟩
end Go.Proofs.YtjclhlicginekaaDoor
