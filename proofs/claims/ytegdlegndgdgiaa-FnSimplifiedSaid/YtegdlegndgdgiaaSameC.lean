/- Two circuits that are the same (laws.sameGates, laws.sameCircuit). No condition. -/
import Derived.Test.YtegdlegndgdgiaaProg
import Derived.Test.YtegdlegndgdgiaaSmT
import Derived.Test.YtegdlegndgdgiaaSmV
import Derived.Test.YtegdlegndgdgiaaSameI
import Derived.Test.YtegdlegndgdgiaaSmY
import Derived.Deep.QuietTactic
namespace Go.Proofs.Ytegdlegndgdgiaa
open Go Go.RowKit
/-- The contract of a function from circuits to circuits. -/
def CtoC (f : Nat) (Z : List Int → Nat → List Int → List Int) (O : List Int → Nat → List Int → List Int) : Prop :=
  ∀ (A0 : Option Addr) (n0 c0 : Nat) (z0 : List Int) (A1 : Option Addr) (n1 c1 : Nat) (z1 : List Int) (w : World), Ints w A0 z0 → z0.length = n0 * 3 → n0 ≤ 2000000 → Ints w A1 z1 → z1.length = n1 → n1 ≤ 2000000 →
    Calls Try.prog f #[.agg #[.slice A0 n0 c0, .slice A1 n1 c1]] w (Post_Circuit (Z z0 n0 z1) (O z0 n0 z1) w)
/-- The contract of a function from circuits to numbers. -/
def CtoI (f : Nat) (R : List Int → Nat → List Int → Int) : Prop :=
  ∀ (A0 : Option Addr) (n0 c0 : Nat) (z0 : List Int) (A1 : Option Addr) (n1 c1 : Nat) (z1 : List Int) (w : World), Ints w A0 z0 → z0.length = n0 * 3 → n0 ≤ 2000000 → Ints w A1 z1 → z1.length = n1 → n1 ≤ 2000000 →
    Calls Try.prog f #[.agg #[.slice A0 n0 c0, .slice A1 n1 c1]] w (Post_int (R z0 n0 z1) w)
theorem gate_neq (k a b k' a' b' : Int) (w : World) : (binOp .neq 45 (.agg #[.int .i64 k, .int .i64 a, .int .i64 b]) (.agg #[.int .i64 k', .int .i64 a', .int .i64 b'])).run Try.prog w = .ok (.bool (!decide (k = k' ∧ a = a' ∧ b = b'))) w := by
  have hS : Try.prog.underlying 45 = some (.struct (Try.prog.fieldsOf 45)) := by kernel_rfl
  have hp : Try.prog.stoodInHeld 45 = false := by kernel_rfl
  rw [run_neq_struct, show (10000 : Nat) = 9999 + 1 from rfl, run_equalIn_agg w 9999 45 _ _ hS hp]
  simp only [Program.fieldsOf, Try.underlying45]
  go_simp
  by_cases h1 : k = k' <;> by_cases h2 : a = a' <;> by_cases h3 : b = b' <;> simp [h1, h2, h3]
set_option maxRecDepth 100000 in
theorem sameGates_same (n c1 c2 : Nat) (A B : Option Addr) (xs : List Int) (w : World) (ha : Ints w A xs) (hb : Ints w B xs) (hl : xs.length = n * 3) (hn : n ≤ 1000000000000) :
    Calls Try.prog 104 #[.slice A n c1, .slice B n c2] w fun e w' => e = .returned (.bool true) ∧ Below w.heap.size w w' := by
  have Hl := Lib.hid hl
  clear hl
  go_enter Try.func104, Try.ntmps104
  go_wp2_with fail
  go_loopw [5] (fun i wr => ∃ j : Nat, j ≤ n ∧ i = .int .i64 j ∧ Below w.heap.size w wr) (fun i _ => n - (intOf i).toNat)
  case atStart => exact ⟨0, Nat.zero_le _, rfl, Below.refl _ _⟩
  case round =>
    obtain ⟨j, hj, rfl, hbr⟩ := hrel
    by_cases hlt : j < n
    · obtain ⟨q, o, rfl, hq, e0, e1, e2⟩ := gate_cells (ha.bound.below hbr) Hl.out hlt
      obtain ⟨q', o', rfl, hq', f0, f1, f2⟩ := gate_cells (hb.bound.below hbr) Hl.out hlt
      generalize gk xs j = k at *
      generalize ga xs j = a at *
      generalize gb xs j = b at *
      have eq1 := fun W => gate_neq k a b k a b W
      rw [decide_eq_true (show k = k ∧ a = a ∧ b = b from ⟨rfl, rfl, rfl⟩)] at eq1
      have hm := gate_guard
      have hj0 : (0 : Int) ≤ j := by omega
      have hj1 : (j : Int) < n := by omega
      have Hq := Lib.hid hbr
      clear ha hb hbr
      go_wp2_with fail
      go_quiet (fail)
      go_wp2_with fail
      go_roundw
      case rel => exact ⟨j + 1, by omega, by go_num, below_drewN Hq.out _⟩
      case measure => simp [intOf]; omega
    · obtain rfl : j = n := by omega
      have Hq := Lib.hid hbr
      clear hbr
      go_wp2_with fail
      go_ret
      exact ⟨rfl, Hq.out⟩
set_option maxRecDepth 100000 in
theorem sameCircuit_same (n m c1 c2 d1 d2 : Nat) (A B C D : Option Addr) (xs os : List Int) (w : World) (ha : Ints w A xs) (hb : Ints w B xs) (hl : xs.length = n * 3) (hn : n ≤ 1000000000000) (hc : Ints w C os) (hd : Ints w D os) (ho : os.length = m) (hm : m ≤ 1000000000000) :
    Calls Try.prog 50 #[.agg #[.slice A n c1, .slice C m d1], .agg #[.slice B n c2, .slice D m d2]] w fun e w' => e = .returned (.bool true) ∧ Below w.heap.size w w' := by
  have k0 := Bx2.start w 31 #[.slice A n c1, .slice C m d1] 31 #[.slice B n c2, .slice D m d2]
  have a0 := ha.bound
  have b0 := hb.bound
  have c0 := hc.bound
  have d0 := hd.bound
  have Hl := Lib.hid hl
  have Ho := Lib.hid ho
  clear ha hb hc hd hl ho
  go_enter Try.func50, Try.ntmps50
  go_wp2_with fail
  generalize hw0 : (w.alloc (.cells #[.slice A n c1, .slice C m d1] 31)).alloc (.cells #[.slice B n c2, .slice D m d2] 31) = w0 at *
  clear hw0
  have x0 := (blk (i := 0) (u := .slice A n c1) k0.arg rfl).1
  have x1 := (blk (i := 1) (u := .slice C m d1) k0.arg rfl).1
  have y0 := (blk (i := 0) (u := .slice B n c2) k0.res rfl).1
  have y1 := (blk (i := 1) (u := .slice D m d2) k0.res rfl).1
  have lo := k0.low
  have cG := sameGates_same n c1 c2 A B xs w0 ((a0.below lo).ints lo.size) ((b0.below lo).ints lo.size) Hl.out hn
  have cI := fun W k1 k2 => sameInts_same m d1 d2 C D os W k1 k2 Ho.out hm
  clear k0 a0 b0
  go_wp2_with (first
    | (go_at_call 104; (with_reducible refine cG.mono ?_); rintro e1 w1 ⟨rfl, hb1⟩; (have x01 := cell_on x0 hb1); (have x11 := cell_on x1 hb1); (have y01 := cell_on y0 hb1); (have y11 := cell_on y1 hb1); (have lo1 := lo.trans (hb1.mono lo.size)))
    | (go_at_call 48; (with_reducible refine (cI _ ((c0.below lo1).ints lo1.size) ((d0.below lo1).ints lo1.size)).mono ?_); rintro e2 w2 ⟨rfl, hb2⟩; (have lo2 := lo1.trans (hb2.mono lo1.size))))
  go_ret
  exact ⟨rfl, lo2⟩
end Go.Proofs.Ytegdlegndgdgiaa
