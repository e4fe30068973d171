/- Numbers of registers: their tests, the program's. No condition. -/
import Derived.Test.YtbbdmgomcpmhpaaProg
import Derived.Test.YtbbdmgomcpmhpaaB1
import Derived.Test.YtbbdmgomcpmhpaaRng
namespace Go.Proofs.Ytbbdmgomcpmhpaa
open Go Go.RowKit
def all4 (l : List Int) : Prop := ∀ z ∈ l, 0 ≤ z ∧ z ≤ 15
instance (l : List Int) : Decidable (all4 l) := by unfold all4; infer_instance
theorem all4.at_ {l : List Int} (h : all4 l) (k : Nat) : 0 ≤ l.getD k 0 ∧ l.getD k 0 ≤ 15 := by
  rcases Nat.lt_or_ge k l.length with hk | hk
  · rw [List.getD_eq_getElem?_getD, List.getElem?_eq_getElem hk]
    exact h _ (List.getElem_mem hk)
  · rw [List.getD_eq_getElem?_getD, List.getElem?_eq_none hk]
    exact ⟨Int.le_refl _, by decide⟩
theorem all4_no {l : List Int} {k : Nat} (h : ¬ (0 ≤ l.getD k 0 ∧ l.getD k 0 ≤ 15)) : ¬ all4 l := fun a => h (a.at_ k)
theorem all4_of {l : List Int} (h : ∀ k, k < l.length → 0 ≤ l.getD k 0 ∧ l.getD k 0 ≤ 15) : all4 l := fun z hz => by
  obtain ⟨k, hk, rfl⟩ := List.getElem_of_mem hz
  have := h k hk
  rwa [List.getD_eq_getElem?_getD, List.getElem?_eq_getElem hk] at this
def in4 (x : Int) : Prop := 0 ≤ x ∧ x ≤ 15
instance (x : Int) : Decidable (in4 x) := by unfold in4; infer_instance
theorem all4_dec (zs : List Int) : all4 zs ↔ ∀ k, k < zs.length → in4 (zs.getD k 0) := ⟨fun h k _ => h.at_ k, all4_of⟩
theorem impl_notRegValue (a : Int) (b : Bool) (hb : decide (in4 a) = b) (w : World) :
    Calls Try.prog 120 #[.int .i64 a] w fun e w' => e = .returned (.bool (!b)) ∧ w = w' := by
  have cR := impl_inRange a 0 15 (by omega)
  rw [show decide (0 ≤ a ∧ a ≤ 15) = b from hb] at cR
  clear hb
  go_enter Try.func120, Try.ntmps120
  go_wp2_with fail
  refine (cR w).mono ?_
  rintro e w1 ⟨rfl, rfl⟩
  go_wp2_with fail
  go_ret
  exact ⟨rfl, rfl⟩
set_option maxRecDepth 100000 in
theorem impl_IndexReg (A : Option Addr) (n c : Nat) (zs : List Int) (w : World) (hz : Ints w A zs) (hl : zs.length = n) (hn : n ≤ 1000000000000) :
    Calls Try.prog 93 #[.slice A n c, .func (.func 120) #[] #[]] w fun e w' => ∃ r : Int, e = .returned (.int .i64 r) ∧ (0 ≤ r ↔ ¬ all4 zs) ∧ w = w' := by
  have Hl := Lib.hid hl
  clear hl
  go_enter Try.func93, Try.ntmps93
  go_wp2_with fail
  go_loop [8] (fun i => ∃ k : Nat, k ≤ n ∧ i = .int .i64 k ∧ Hid (∀ j, j < k → in4 (zs.getD j 0))) (fun i => n - (intOf i).toNat)
  case atStart => exact ⟨0, Nat.zero_le _, rfl, fun _ h => by omega⟩
  case round =>
    obtain ⟨k, hk, rfl, hne⟩ := hrel
    by_cases hlt : k < n
    · obtain ⟨b, o, rfl, _, c0⟩ := hz.at_ (j := k) (by rw [Hl.out]; exact hlt)
      have Hyes : Hid (¬ in4 (zs.getD k 0) → ¬ all4 zs) := fun e => all4_no e
      have Hnx : Hid (in4 (zs.getD k 0) → ∀ j, j < k + 1 → in4 (zs.getD j 0)) := fun e j hj => by
        rcases Nat.lt_or_ge j k with h | h
        · exact hne.out j h
        · obtain rfl : j = k := by omega
          exact e
      generalize zs.getD k 0 = y at c0 Hyes Hnx
      have k0 : (0 : Int) ≤ k := by omega
      have k1 : (k : Int) < n := by omega
      clear hz
      by_cases hxy : in4 y
      · have Hn := Lib.hid (Hnx.out hxy)
        have cN := impl_notRegValue y true (decide_eq_true hxy) w
        clear Hnx Hyes hxy
        go_wp2_with fail
        refine cN.mono ?_
        rintro e w1 ⟨rfl, rfl⟩
        go_wp2_with fail
        go_round
        case rel => exact ⟨k + 1, by omega, by go_num, Hn.out⟩
        case measure => simp [intOf]; omega
      · have Hy := Lib.hid (Hyes.out hxy)
        have cN := impl_notRegValue y false (decide_eq_false hxy) w
        clear Hnx Hyes hxy
        go_wp2_with fail
        refine cN.mono ?_
        rintro e w1 ⟨rfl, rfl⟩
        go_wp2_with fail
        go_ret
        exact ⟨_, rfl, ⟨fun _ => Hy.out, fun _ => k0⟩, rfl⟩
    · obtain rfl : k = n := by omega
      have Hno : Hid (all4 zs) := (all4_dec zs).2 (fun j hj => hne.out j (by rw [← Hl.out]; exact hj))
      go_wp2_with fail
      go_ret
      exact ⟨_, rfl, ⟨fun h => by omega, fun h => absurd Hno.out h⟩, rfl⟩
theorem impl_ContainsReg (A : Option Addr) (n c : Nat) (zs : List Int) (r : Bool) (hr : decide (all4 zs) = r) (w : World) (hz : Ints w A zs) (hl : zs.length = n) (hn : n ≤ 1000000000000) :
    Calls Try.prog 74 #[.slice A n c, .func (.func 120) #[] #[]] w fun e w' => e = .returned (.bool (!r)) ∧ w = w' := by
  go_enter Try.func74, Try.ntmps74
  go_wp2_with fail
  refine (impl_IndexReg A n c zs w hz hl hn).mono ?_
  rintro e w1 ⟨q, rfl, hq, rfl⟩
  have hd : decide (0 ≤ q) = !r := by
    rw [← hr]
    by_cases h : all4 zs
    · rw [decide_eq_true h, decide_eq_false (fun e => hq.1 e h)]; rfl
    · rw [decide_eq_false h, decide_eq_true (hq.2 h)]; rfl
  have Hd := Lib.hid hd
  clear hq hd
  go_wp2_with fail
  go_ret
  exact ⟨ret_bool Hd.out, rfl⟩
theorem impl_allRegValues (A : Option Addr) (n c : Nat) (zs : List Int) (r : Bool) (hr : decide (all4 zs) = r) (w : World) (hz : Ints w A zs) (hl : zs.length = n) (hn : n ≤ 1000000000000) :
    Calls Try.prog 108 #[.slice A n c] w fun e w' => e = .returned (.bool r) ∧ w = w' := by
  have cC := impl_ContainsReg A n c zs r hr w hz hl hn
  clear hr hz hl
  go_enter Try.func108, Try.ntmps108
  go_wp2_with fail
  refine cC.mono ?_
  rintro e w1 ⟨rfl, rfl⟩
  go_wp2_with fail
  go_ret
  exact ⟨ret_bool (by cases r <;> rfl), rfl⟩
end Go.Proofs.Ytbbdmgomcpmhpaa
