/- The draws of statements and of programs: what is drawn is valid. No condition. -/
import Derived.Test.YtbbdmgomcpmhpaaProg
import Derived.Test.YtbbdmgomcpmhpaaB1
import Derived.Test.YtbbdmgomcpmhpaaStmtG
import Derived.Test.YtbbdmgomcpmhpaaB2
namespace Go.Proofs.Ytbbdmgomcpmhpaa
open Go Go.RowKit
/-- A drawn statement: valid, no loop and no end, its registers below 4. -/
def plainSt (s : St) : Prop := s.ok ∧ s.op ≤ 11 ∧ (0 ≤ s.d ∧ s.d ≤ 3) ∧ (0 ≤ s.a ∧ s.a ≤ 3) ∧ (0 ≤ s.b ∧ s.b ≤ 3) ∧ (0 ≤ s.c ∧ s.c ≤ 3)
def DrawnSt (T : TypeId) (B g : Nat) (P : St → Prop) (w : World) (e : Ending) (w' : World) : Prop :=
  ∃ s : St, e = .returned s.v ∧ P s ∧ RunD T B g w w'
theorem plain_con {d n : Int} {a b c : Int} (hd : 0 ≤ d ∧ d < 4) (hn : 0 ≤ n ∧ n < 16) : plainSt (plainI 1 d a b c n) := by
  simp [plainI, tyOf, Ty.back, plainSt, St.ok, okI, isReg]; omega
theorem plain_inp {d n : Int} {a b c : Int} (hd : 0 ≤ d ∧ d < 4) (ha : 0 ≤ a ∧ a < 3) (hn : 0 ≤ n ∧ n < 2) : plainSt (plainI 2 d a b c n) := by
  simp [plainI, tyOf, Ty.back, plainSt, St.ok, okI, isReg]; omega
theorem plain_mux {d n : Int} {a b c : Int} (hd : 0 ≤ d ∧ d < 4) (ha : 0 ≤ a ∧ a < 4) (hb : 0 ≤ b ∧ b < 4) (hc : 0 ≤ c ∧ c < 4) : plainSt (plainI 10 d a b c n) := by
  simp [plainI, tyOf, Ty.back, plainSt, St.ok, okI, isReg]; omega
theorem plain_out {a : Int} {d b c n : Int} (ha : 0 ≤ a ∧ a < 4) : plainSt (plainI 11 d a b c n) := by
  simp [plainI, tyOf, Ty.back, plainSt, St.ok, okI, isReg]; omega
theorem plain_bin {op d a b : Int} {c n : Int} (ho : 0 ≤ op ∧ op < 7) (hd : 0 ≤ d ∧ d < 4) (ha : 0 ≤ a ∧ a < 4) (hb : 0 ≤ b ∧ b < 4) : plainSt (plainI (3 + op) d a b c n) := by
  have h1 : ¬ (3 + op = 1) := by omega
  have h2 : ¬ (3 + op = 2) := by omega
  have h3 : 3 ≤ 3 + op ∧ 3 + op ≤ 9 := by omega
  simp only [plainI, tyOf, if_neg h1, if_neg h2, if_pos h3, Ty.back]
  exact ⟨.inr (.inr (.inl ⟨h3.1, h3.2, ⟨by show 0 ≤ d; omega, by show d ≤ 7; omega⟩, ⟨by show 0 ≤ a; omega, by show a ≤ 7; omega⟩, ⟨by show 0 ≤ b; omega, by show b ≤ 7; omega⟩, rfl, rfl⟩)), by show 3 + op ≤ 11; omega, by show 0 ≤ d ∧ d ≤ 3; omega, by show 0 ≤ a ∧ a ≤ 3; omega, by show 0 ≤ b ∧ b ≤ 3; omega, by show (0 : Int) ≤ 0 ∧ (0 : Int) ≤ 3; omega⟩
theorem St.v_mk (s : St) : ∃ o d a b c n : Int, s = ⟨o, d, a, b, c, n⟩ := ⟨s.op, s.d, s.a, s.b, s.c, s.n, rfl⟩
end Go.Proofs.Ytbbdmgomcpmhpaa
