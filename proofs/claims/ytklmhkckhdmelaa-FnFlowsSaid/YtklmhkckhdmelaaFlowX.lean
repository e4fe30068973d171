/- FlowStep: the program's and the model's, at every argument. No condition. -/
import Derived.Test.YtklmhkckhdmelaaProg
import Derived.Test.YtklmhkckhdmelaaFlowJ
import Derived.Test.YtklmhkckhdmelaaFlowT
namespace Go.Proofs.Ytklmhkckhdmelaa
open Go Go.RowKit
theorem flow_idle {rs : List Int} (os : List Int) {op d a b c n : Int} (h : idle rs op d a b c n) : flowR rs op d a b c n = rs ∧ flowO rs os op d a b c n = os := by
  unfold idle at h
  unfold flowR flowO
  refine ⟨if_neg (fun e => ?_), if_neg (fun e => ?_)⟩
  · rcases h with h | h | h
    · exact h e.1
    · exact h e.2.1
    · have := e.2.2; omega
  · rcases h with h | h | h
    · exact h e.1
    · exact h e.2.1
    · have := e.2.2; omega
theorem impl_FlowStep (A0 : Option Addr) (n0 c0 : Nat) (rs : List Int) (A1 : Option Addr) (n1 c1 : Nat) (os : List Int) (op d a b c n : Int) (w : World) (h0 : Ints w A0 rs) (l0 : rs.length = n0) (m0 : n0 ≤ 1999999) (h1 : Ints w A1 os) (l1 : os.length = n1) (m1 : n1 ≤ 1999999) :
    Calls Try.prog 23 #[.agg #[.slice A0 n0 c0, .slice A1 n1 c1], .agg #[.int .i64 op, .int .i64 d, .int .i64 a, .int .i64 b, .int .i64 c, .int .i64 n]] w (Post_Flow (flowR rs op d a b c n) (flowO rs os op d a b c n) w) := by
  by_cases hok : okI op d a b c n
  · by_cases h8 : rs.length = 8
    · obtain rfl : n0 = 8 := by omega
      exact impl_FlowStep_yes A0 A1 c0 c1 n1 rs os op d a b c n w h0 h8 h1 l1 m1 hok
    · obtain ⟨e, e'⟩ := flow_idle os (show idle rs op d a b c n from .inr (.inl h8))
      rw [e, e']
      exact impl_FlowStep_len A0 A1 c0 c1 n0 n1 rs os op d a b c n w h0 l0 (by omega) h1 l1 (by omega) hok h8
  · obtain ⟨e, e'⟩ := flow_idle os (show idle rs op d a b c n from .inl hok)
    rw [e, e']
    exact impl_FlowStep_no A0 A1 c0 c1 n0 n1 rs os op d a b c n w h0 l0 (by omega) h1 l1 (by omega) hok
theorem spec_FlowStep (A0 : Option Addr) (n0 c0 : Nat) (rs : List Int) (A1 : Option Addr) (n1 c1 : Nat) (os : List Int) (op d a b c n : Int) (w : World) (h0 : Ints w A0 rs) (l0 : rs.length = n0) (m0 : n0 ≤ 1999999) (h1 : Ints w A1 os) (l1 : os.length = n1) (m1 : n1 ≤ 1999999) (hwf : ∀ z ∈ rs, (Lit.int .i64 z).wf = true) :
    Calls Try.prog 20 #[.agg #[.slice A0 n0 c0, .slice A1 n1 c1], .agg #[.int .i64 op, .int .i64 d, .int .i64 a, .int .i64 b, .int .i64 c, .int .i64 n]] w (Post_Flow (flowR rs op d a b c n) (flowO rs os op d a b c n) w) := by
  by_cases hid : idle rs op d a b c n
  · obtain ⟨e, e'⟩ := flow_idle os hid
    rw [e, e']
    exact spec_FlowStep_no A0 A1 c0 c1 n0 n1 rs os op d a b c n w h0 l0 (by omega) h1 l1 (by omega) hid
  · have h8 : rs.length = 8 := by
      rcases Nat.decEq rs.length 8 with h | h
      · exact absurd (.inr (.inl h)) hid
      · exact h
    have hok : okI op d a b c n := by
      by_cases h : okI op d a b c n
      · exact h
      · exact absurd (.inl h) hid
    obtain rfl : n0 = 8 := by omega
    exact spec_FlowStep_yes A0 A1 c0 c1 n1 rs os op d a b c n w h0 h8 hwf h1 l1 m1 hok (fun h => hid (.inr (.inr h)))
end Go.Proofs.Ytklmhkckhdmelaa
