/- Circuit builders: whether gates can be appended for these words, the model's test. No condition. -/
import Derived.Test.YtegdlegndgdgiaaProg
import Derived.Test.YtegdlegndgdgiaaCwX
namespace Go.Proofs.Ytegdlegndgdgiaa
open Go Go.RowKit
set_option maxRecDepth 100000 in
set_option maxHeartbeats 1000000 in
theorem spec_l14Word (A0 : Option Addr) (n0 c0 : Nat) (A1 : Option Addr) (n1 c1 : Nat) (A : Option Addr) (m c : Nat) (us : List Int) (r : Bool) (hr : decide (wordOk us n0) = r) (w : World) (h : Ints w A us) (l : us.length = m) (hm : m ≤ 1000000000000) (hn : n0 ≤ 1000000000000) :
    Calls Try.prog 150 #[.agg #[.slice A0 n0 c0, .slice A1 n1 c1], .slice A m c] w fun e w' => e = .returned (.bool r) ∧ Below w.heap.size w w' := by
  have low := below_alloc w (.cells #[.slice A0 n0 c0, .slice A1 n1 c1] 31)
  have bx := heap_alloc_new w (.cells #[.slice A0 n0 c0, .slice A1 n1 c1] 31)
  have hi := (h.bound.below low).ints low.size
  have HR := Lib.hid hr
  have L := Lib.hid l
  clear hr l h
  go_enter Try.func150, Try.ntmps150
  go_wp2_with fail
  generalize hw0 : w.alloc (.cells #[.slice A0 n0 c0, .slice A1 n1 c1] 31) = w0 at *
  clear hw0
  have g0 := (blk (i := 0) bx rfl).1
  go_loopw [5] (fun i wr => ∃ k : Nat, k ≤ m ∧ i = .int .i64 k ∧ Hid (∀ j, j < k → 0 ≤ us.getD j 0 ∧ us.getD j 0 < (n0 : Int)) ∧ Below w0.heap.size w0 wr) (fun i _ => m - (intOf i).toNat)
  case atStart => exact ⟨0, Nat.zero_le _, rfl, (show ∀ j, j < 0 → _ from fun j hj => by omega), Below.refl _ _⟩
  case round =>
    obtain ⟨k, hk, rfl, hW, hbd⟩ := hrel
    have hi2 := Ints.below hi hbd
    have bx2 := heap_below bx hbd
    have low2 := Lib.hid (low.trans (hbd.mono low.size))
    clear g0
    have g0 := (blk (i := 0) bx2 rfl).1
    by_cases hlt : k < m
    · obtain ⟨b, o, rfl, _, q0⟩ := hi2.at_ (j := k) (by rw [L.out]; exact hlt)
      have Hno : Hid (¬ (0 ≤ us.getD k 0 ∧ us.getD k 0 < (n0 : Int)) → decide (wordOk us n0) = false) := fun e => decide_eq_false (fun h => wiresOk_no (by rw [L.out]; exact hlt) e h.2)
      have Hnx : Hid (0 ≤ us.getD k 0 ∧ us.getD k 0 < (n0 : Int) → ∀ j, j < k + 1 → 0 ≤ us.getD j 0 ∧ us.getD j 0 < (n0 : Int)) := fun e i hi => by
        rcases Nat.lt_or_ge i k with h | h
        · exact hW.out i h
        · obtain rfl : i = k := by omega
          exact e
      generalize us.getD k 0 = y at q0 Hno Hnx
      have k0 : (0 : Int) ≤ k := by omega
      have k1 : (k : Int) < m := by omega
      by_cases hxy : 0 ≤ y ∧ y < (n0 : Int)
      · have Hn := Lib.hid (Hnx.out hxy)
        have cN := l01In_is y 0 ((n0 : Int) - 1) true (decide_eq_true (by omega))
        clear Hnx Hno hxy hi hi2
        go_wp2_with fail
        go_quiet (first | (go_at_call 108; refine Calls.quiet_of_same ((cN _).mono fun _ _ ⟨he, hw⟩ => ⟨he, hw.symm⟩)))
        go_wp2_with fail
        go_roundw
        case rel => exact ⟨k + 1, by omega, by go_num, Hn.out, below_drewN hbd _⟩
        case measure => simp [intOf]; omega
      · have Hf := Lib.hid (HR.out.symm.trans (Hno.out hxy))
        have cN := l01In_is y 0 ((n0 : Int) - 1) false (decide_eq_false (by omega))
        clear Hnx Hno hxy hi hi2
        go_wp2_with fail
        go_quiet (first | (go_at_call 108; refine Calls.quiet_of_same ((cN _).mono fun _ _ ⟨he, hw⟩ => ⟨he, hw.symm⟩)))
        go_wp2_with fail
        go_ret
        exact ⟨ret_bool (by rw [Hf.out]), below_drewN low2.out _⟩
    · obtain rfl : k = m := by omega
      have Hw : Hid (wiresOk us n0) := wiresOk_of (fun j hj => hW.out j (by rw [← L.out]; exact hj))
      have Ht : Hid (r = decide (k = 4)) := HR.out.symm.trans (by
        by_cases h : k = 4
        · rw [decide_eq_true h, decide_eq_true (show wordOk us n0 from ⟨by rw [L.out]; exact h, Hw.out⟩)]
        · rw [decide_eq_false h, decide_eq_false (fun e : wordOk us n0 => h (by rw [← L.out]; exact e.1))])
      by_cases h4 : k = 4
      · subst h4
        obtain rfl : r = true := Ht.out
        go_wp2_with fail
        go_ret
        exact ⟨by first | rfl | simp, low2.out⟩
      · obtain rfl : r = false := Ht.out.trans (decide_eq_false h4)
        have h5 : ((k : Int) == 4) = false := beq_eq_false_iff_ne.2 (by omega)
        clear h4
        go_wp2_with fail
        go_ret
        exact ⟨by first | rfl | simp, low2.out⟩
set_option maxRecDepth 100000 in
set_option maxHeartbeats 1000000 in
theorem spec_l14Ask (A0 : Option Addr) (n0 c0 : Nat) (z0 : List Int) (A1 : Option Addr) (n1 c1 : Nat) (z1 : List Int) (A2 : Option Addr) (n2 c2 : Nat) (us : List Int) (A3 : Option Addr) (n3 c3 : Nat) (ws : List Int) (r : Bool) (hr : decide (canB14 z0 n0 z1 us ws) = r) (w : World) (h0 : Ints w A0 z0) (l0 : z0.length = n0 * 3) (m0 : n0 ≤ 1000000000000) (h1 : Ints w A1 z1) (l1 : z1.length = n1) (m1 : n1 ≤ 1000000000000)
    (h2 : Ints w A2 us) (l2 : us.length = n2) (m2 : n2 ≤ 1000000000000) (h3 : Ints w A3 ws) (l3 : ws.length = n3) (m3 : n3 ≤ 1000000000000) :
    Calls Try.prog 111 #[.agg #[.slice A0 n0 c0, .slice A1 n1 c1], .slice A2 n2 c2, .slice A3 n3 c3] w fun e w' => e = .returned (.bool r) ∧ Below w.heap.size w w' := by
  have low := below_alloc w (.cells #[.slice A0 n0 c0, .slice A1 n1 c1] 31)
  have bx := heap_alloc_new w (.cells #[.slice A0 n0 c0, .slice A1 n1 c1] 31)
  have i0 := (h0.bound.below low).ints low.size
  have i1 := (h1.bound.below low).ints low.size
  have i2 := (h2.bound.below low).ints low.size
  have i3 := (h3.bound.below low).ints low.size
  clear h0 h1 h2 h3
  obtain ⟨q, hq⟩ : ∃ q, decide (cirOk z0 n0 z1) = q := ⟨_, rfl⟩
  have cC := spec_CircuitOk A0 n0 c0 z0 A1 n1 c1 z1 q hq _ i0 l0 m0 i1 l1 m1
  go_enter Try.func111, Try.ntmps111
  go_upto_region 1 with (fail)
  generalize hw0 : w.alloc (.cells #[.slice A0 n0 c0, .slice A1 n1 c1] 31) = w0 at *
  clear hw0
  have g0 := (blk (i := 0) bx rfl).1
  have g1 := (blk (i := 1) bx rfl).1
  go_wp2_with fail
  refine cC.mono ?_
  rintro e w1 ⟨rfl, hb⟩
  replace bx := heap_below bx hb
  replace low := low.trans (hb.mono low.size)
  replace i2 := Ints.below i2 hb
  replace i3 := Ints.below i3 hb
  clear g0 g1 hb i0 i1 cC
  have g0 := (blk (i := 0) bx rfl).1
  have g1 := (blk (i := 1) bx rfl).1
  by_cases hc : cirOk z0 n0 z1
  case neg =>
    obtain rfl : q = false := by rw [← hq, decide_eq_false hc]
    obtain rfl : r = false := by rw [← hr]; exact decide_eq_false (fun e => hc e.1.1)
    have L := Lib.hid low
    clear low
    go_wp2_with fail
    go_ret
    exact ⟨by first | rfl | simp, L.out⟩
  obtain rfl : q = true := by rw [← hq, decide_eq_true hc]
  by_cases h59 : n0 ≤ 5900
  case neg =>
    obtain rfl : r = false := by rw [← hr]; exact decide_eq_false (fun e => h59 e.1.2)
    have L := Lib.hid low
    clear low
    go_wp2_with fail
    go_ret
    exact ⟨by first | rfl | simp, L.out⟩
  obtain ⟨p, hp⟩ : ∃ p, decide (wordOk us n0) = p := ⟨_, rfl⟩
  have cW := spec_l14Word A0 n0 c0 A1 n1 c1 A2 n2 c2 us p hp w1 i2 l2 m2 m0
  go_wp2_with fail
  refine cW.mono ?_
  rintro e w2 ⟨rfl, hb⟩
  replace bx := heap_below bx hb
  replace low := low.trans (hb.mono low.size)
  replace i3 := Ints.below i3 hb
  clear g0 g1 hb cW i2
  have g0 := (blk (i := 0) bx rfl).1
  have g1 := (blk (i := 1) bx rfl).1
  by_cases hu : wordOk us n0
  case neg =>
    obtain rfl : p = false := by rw [← hp, decide_eq_false hu]
    obtain rfl : r = false := by rw [← hr]; exact decide_eq_false (fun e => hu e.2.1)
    have L := Lib.hid low
    clear low
    go_wp2_with fail
    go_ret
    exact ⟨by first | rfl | simp, L.out⟩
  obtain rfl : p = true := by rw [← hp, decide_eq_true hu]
  have hv : decide (wordOk ws n0) = r := by
    rw [← hr]
    by_cases h : wordOk ws n0
    · rw [decide_eq_true h, decide_eq_true (show canB14 z0 n0 z1 us ws from ⟨⟨hc, h59⟩, hu, h⟩)]
    · rw [decide_eq_false h, decide_eq_false (fun e : canB14 z0 n0 z1 us ws => h e.2.2)]
  have cW := spec_l14Word A0 n0 c0 A1 n1 c1 A3 n3 c3 ws r hv w2 i3 l3 m3 m0
  go_wp2_with fail
  refine cW.mono ?_
  rintro e w3 ⟨rfl, hb⟩
  have L := Lib.hid (low.trans (hb.mono low.size))
  clear g0 g1 hb cW i3 low
  go_wp2_with fail
  go_ret
  exact ⟨by first | rfl | simp, L.out⟩
end Go.Proofs.Ytegdlegndgdgiaa
