/- The law FnExactPublicOf returns true for every input, and writes nothing that was there. -/
import Derived.Test.YtfpcjgolcbjnjaaRows
import Derived.Test.YtfpcjgolcbjnjaaXExactPublicOf
import Derived.WalkKit
import Derived.ProofKit
import Derived.OpenShut
import Derived.ShutString
import Derived.ChangeOld
import Derived.Below
import Derived.Lib.SmallJoins
namespace Go.Proofs.Ytfpcjgolcbjnjaa.lawFnExactPublicOf
open Go.ChangeShapes Go.WideShapes Go.ChangeAt Go.RowKit
open Go.ChangeMaps (open_string shut_string)
set_option linter.unusedVariables false

theorem own : ownKnob Try.prog.godebug = none := by kernel_rfl
theorem laidOut : laidOutB Try.prog = true := by kernel_rfl
set_option maxRecDepth 100000 in
theorem lifted (os : Os) (started : os.Started) (H : Type) (enc : TypeId × Value → H) :
    ReturnsInHanded {} Try.checked os 8 .any (Rows.fnExactPublicOfSpec.pre6 enc Try.prog Try.f8 Rows.fnExactPublicOfRow.domain false) (Rows.fnExactPublicOfSpec.post enc Try.prog Try.f8 false true false false) := by
  refine returnsInHanded_of_change (C := Try.checked) own started (by kernel_rfl) Try.func8
    (ChangeSpec.witness6 (enc := enc) (C := Try.checked) false ⟨#[], #[.agg #[.slice none 0 0, .slice none 0 0], .agg #[.int .i64 0, .slice none 0 0, .slice none 0 0]], []⟩ 8 (by kernel_rfl) (by kernel_rfl) (by kernel_rfl) (by kernel_rfl)) ?_
  intro W base args ds gs before hval0 hW hcnd _
  have hval : ∀ (j : Nat) t v, Try.f8.params[j]? = some t → args[j]? = some v → Value.okWide Try.prog W .any base t v := hval0
  have hW' := hW
  obtain ⟨p, q, hA0, hV, rfl, hfz, hnd⟩ := hW
  have hA : DataW.TrodAll enc Try.prog W 0 (fun _ => true) true Try.f8.params.toList args.toList ds p := hA0
  rw [Try.params8] at hA hval
  obtain ⟨v0, vs0, d0, ds0, p0, q0, hargs, rfl, rfl, h0, r0⟩ := trodAll_cons hA
  obtain ⟨v1, vs1, d1, ds1, p1, q1, rfl, rfl, rfl, h1, r1⟩ := trodAll_cons r0
  obtain ⟨rfl, rfl, rfl⟩ := trodAll_nil r1
  obtain rfl : args = #[v0, v1] := by cases args; simp_all
  obtain ⟨rfl, rfl⟩ := trodVars_none hV
  have k0 := h0
  have lt0 : ∀ x ∈ p0, x.block < W.heap.size := by obtain ⟨m, hm⟩ := k0; exact DataW.trod_lt m _ _ _ hm
  have k1 := h1
  have lt1 : ∀ x ∈ p1, x.block < W.heap.size := by obtain ⟨m, hm⟩ := k1; exact DataW.trod_lt m _ _ _ hm
  obtain ⟨c0_0, c0_1, y0_0, y0_1, m0, rfl, rfl, rfl, g0_0, g0_1⟩ := Go.Joins.open_agg2 Try.underlying52 (by kernel_rfl) (by kernel_rfl) (hval 0 52 v0 rfl rfl) h0
  obtain ⟨a0_0, len0_0, cap0_0, z0_0, e0_0, w0_0⟩ := Go.Proofs.Ytfpcjgolcbjnjaa.slice_all 3 Try.underlying50 Try.underlying116 Try.underlying3 (by kernel_rfl) (by kernel_rfl) (by kernel_rfl) (by rfl) g0_0
  simp at e0_0
  subst e0_0
  obtain ⟨a0_1, len0_1, cap0_1, z0_1, e0_1, w0_1⟩ : ∃ (A : Option Addr) (n c : Nat) (zs : List Int), c0_1 = .slice A n c ∧ Ints W A zs ∧ zs.length = n ∧ n ≤ 9223372036854775807 := by
    rcases open_ints Try.underlying25 Try.underlying3 (by kernel_rfl) g0_1 with ⟨hcs, _⟩ | ⟨x, l, c, zs, hcs, _, hl, hm, hz, _, hcell, hwz⟩
    · simp at hcs
      exact ⟨none, 0, 0, [], hcs, Ints.nil _ _, rfl, by omega⟩
    · simp at hcs
      have hr := Ints.of_row hl (by simpa using hz) hcell
      exact ⟨_, _, _, _, hcs, hr.1, hr.2, by unfold maxLen at hm; omega⟩
  subst e0_1
  obtain ⟨c1_0, c1_1, c1_2, y1_0, y1_1, y1_2, m1, rfl, rfl, rfl, g1_0, g1_1, g1_2⟩ := Go.Joins.open_agg3 Try.underlying59 (by kernel_rfl) (by kernel_rfl) (hval 1 59 v1 rfl rfl) h1
  obtain ⟨a1_0, e1_0, rfl, w1_0⟩ := DataW.trod_int Try.underlying3 g1_0
  simp at e1_0
  subst e1_0
  obtain ⟨a1_1, len1_1, cap1_1, z1_1, e1_1, w1_1⟩ : ∃ (A : Option Addr) (n c : Nat) (zs : List Int), c1_1 = .slice A n c ∧ Ints W A zs ∧ zs.length = n ∧ n ≤ 9223372036854775807 := by
    rcases open_ints Try.underlying25 Try.underlying3 (by kernel_rfl) g1_1 with ⟨hcs, _⟩ | ⟨x, l, c, zs, hcs, _, hl, hm, hz, _, hcell, hwz⟩
    · simp at hcs
      exact ⟨none, 0, 0, [], hcs, Ints.nil _ _, rfl, by omega⟩
    · simp at hcs
      have hr := Ints.of_row hl (by simpa using hz) hcell
      exact ⟨_, _, _, _, hcs, hr.1, hr.2, by unfold maxLen at hm; omega⟩
  subst e1_1
  obtain ⟨a1_2, len1_2, cap1_2, z1_2, e1_2, w1_2⟩ : ∃ (A : Option Addr) (n c : Nat) (zs : List Int), c1_2 = .slice A n c ∧ Ints W A zs ∧ zs.length = n ∧ n ≤ 9223372036854775807 := by
    rcases open_ints Try.underlying25 Try.underlying3 (by kernel_rfl) g1_2 with ⟨hcs, _⟩ | ⟨x, l, c, zs, hcs, _, hl, hm, hz, _, hcell, hwz⟩
    · simp at hcs
      exact ⟨none, 0, 0, [], hcs, Ints.nil _ _, rfl, by omega⟩
    · simp at hcs
      have hr := Ints.of_row hl (by simpa using hz) hcell
      exact ⟨_, _, _, _, hcs, hr.1, hr.2, by unfold maxLen at hm; omega⟩
  subst e1_2
  clear hA0 hval0
  refine (FnExactPublicOf_walk a0_0 len0_0 cap0_0 z0_0 a0_1 len0_1 cap0_1 z0_1 a1_0 a1_1 len1_1 cap1_1 z1_1 a1_2 len1_2 cap1_2 z1_2 W w0_0.1 w0_0.2.1 w0_0.2.2.1 w0_1.1 w0_1.2.1 w0_1.2.2 w1_0 w1_1.1 w1_1.2.1 w1_1.2.2 w1_2.1 w1_2.2.1 w1_2.2.2).mono fun e W' ⟨he, bel⟩ => ?_
  subst he
  exact ⟨_, rfl, _, _, _, [], _, [], hW', trodAll_mk1 (shut_bool Try.underlying4 _), (trodAll_cons_mk (Below.trod laidOut (by kernel_rfl) (of_decide_eq_true (by kernel_rfl)) k0 bel lt0) (trodAll_cons_mk (Below.trod laidOut (by kernel_rfl) (of_decide_eq_true (by kernel_rfl)) k1 bel lt1) trodAll_mk0)), rfl, bel.frame _, fun h => by cases h⟩

theorem over : Rows.fnExactPublicOfRow.holds Try.pinned (OpenSpec.ofChange Rows.fnExactPublicOfSpec) :=
  OpenClaim.holds_of_wide 8 Try.f8 rfl rfl rfl rfl rfl rfl rfl ⟨rfl, rfl, rfl, rfl, rfl⟩ rfl rfl rfl rfl rfl (by kernel_rfl) Try.func8 (by kernel_rfl)
    (of_decide_eq_true (by kernel_rfl)) (by unfold Func.isWrapper; first | (rw [if_pos (by decide +kernel)]; kernel_rfl) | (rw [if_neg (by decide +kernel)]; exact ⟨rfl, rfl⟩))
    (fun os started H enc _ => lifted os started H enc)

theorem proved : Rows.FnExactPublicOfSaid := over
end Go.Proofs.Ytfpcjgolcbjnjaa.lawFnExactPublicOf
