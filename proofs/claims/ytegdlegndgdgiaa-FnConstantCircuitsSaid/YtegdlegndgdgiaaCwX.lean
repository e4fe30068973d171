/- Circuit builders: whether gates can be appended for these words, the program's test. No condition. -/
import Derived.Test.YtegdlegndgdgiaaProg
import Derived.Test.YtegdlegndgdgiaaCirB
import Derived.Test.YtegdlegndgdgiaaW2
namespace Go.Proofs.Ytegdlegndgdgiaa
open Go Go.RowKit
/-- A word: four wires. -/
def wordOk (us : List Int) (n : Nat) : Prop := us.length = 4 ∧ wiresOk us n
instance (us : List Int) (n : Nat) : Decidable (wordOk us n) := by unfold wordOk; infer_instance
/-- Gates can be appended. -/
def canC14 (z : List Int) (n : Nat) (os : List Int) : Prop := cirOk z n os ∧ n ≤ 5900
instance (z : List Int) (n : Nat) (os : List Int) : Decidable (canC14 z n os) := by unfold canC14; infer_instance
theorem impl_notWire (x : Int) (gc n : Nat) (A : Option Addr) (c : Nat) (v1 : Value) (r : Bool) (hr : decide (0 ≤ x ∧ x < (n : Int)) = r) (w : World) (bx : w.heap[gc]? = some (.cells #[.slice A n c, v1] 31 (0, 0))) :
    Calls Try.prog 128 #[.int .i64 x, .pointer (some ⟨gc, 0, none⟩)] w fun e w' => e = .returned (.bool (!r)) ∧ w = w' := by
  have g0 := (blk (i := 0) bx rfl).1
  have cW := impl_isWire x n r hr w
  clear hr
  go_enter Try.func128, Try.ntmps128
  go_wp2_with fail
  refine cW.mono ?_
  rintro e w1 ⟨rfl, rfl⟩
  go_wp2_with fail
  go_ret
  exact ⟨rfl, rfl⟩
theorem wiresOk_dec (zs : List Int) (n : Nat) : wiresOk zs n ↔ ∀ k, k < zs.length → 0 ≤ zs.getD k 0 ∧ zs.getD k 0 < (n : Int) := ⟨fun h _ hk => h _ (gD_mem hk), wiresOk_of⟩
set_option maxRecDepth 100000 in
theorem impl_IndexWire (A0 : Option Addr) (gc n c0 : Nat) (v1 : Value) (A : Option Addr) (m c : Nat) (zs : List Int) (w : World) (bx : w.heap[gc]? = some (.cells #[.slice A0 n c0, v1] 31 (0, 0))) (hz : Ints w A zs) (hl : zs.length = m) (hm : m ≤ 1000000000000) :
    Calls Try.prog 153 #[.slice A m c, .func (.func 128) #[] #[.pointer (some ⟨gc, 0, none⟩)]] w fun e w' => ∃ r : Int, e = .returned (.int .i64 r) ∧ (0 ≤ r ↔ ¬ wiresOk zs n) ∧ w = w' := by
  have Hl := Lib.hid hl
  clear hl
  go_enter Try.func153, Try.ntmps153
  go_wp2_with fail
  go_loop [8] (fun i => ∃ k : Nat, k ≤ m ∧ i = .int .i64 k ∧ Hid (∀ j, j < k → 0 ≤ zs.getD j 0 ∧ zs.getD j 0 < (n : Int))) (fun i => m - (intOf i).toNat)
  case atStart => exact ⟨0, Nat.zero_le _, rfl, (show ∀ j, j < 0 → _ from fun _ h => by omega)⟩
  case round =>
    obtain ⟨k, hk, rfl, hne⟩ := hrel
    by_cases hlt : k < m
    · obtain ⟨b, o, rfl, _, q0⟩ := hz.at_ (j := k) (by rw [Hl.out]; exact hlt)
      have Hyes : Hid (¬ (0 ≤ zs.getD k 0 ∧ zs.getD k 0 < (n : Int)) → ¬ wiresOk zs n) := fun e => wiresOk_no (by rw [Hl.out]; exact hlt) e
      have Hnx : Hid ((0 ≤ zs.getD k 0 ∧ zs.getD k 0 < (n : Int)) → ∀ j, j < k + 1 → 0 ≤ zs.getD j 0 ∧ zs.getD j 0 < (n : Int)) := fun e j hj => by
        rcases Nat.lt_or_ge j k with h | h
        · exact hne.out j h
        · obtain rfl : j = k := by omega
          exact e
      generalize zs.getD k 0 = y at q0 Hyes Hnx
      have k0 : (0 : Int) ≤ k := by omega
      have k1 : (k : Int) < m := by omega
      clear hz
      by_cases hxy : 0 ≤ y ∧ y < (n : Int)
      · have Hn := Lib.hid (Hnx.out hxy)
        have cN := impl_notWire y gc n A0 c0 v1 true (decide_eq_true hxy) w bx
        clear Hnx Hyes hxy
        go_wp2_with fail
        refine cN.mono ?_
        rintro e w1 ⟨rfl, rfl⟩
        go_wp2_with fail
        go_round
        case rel => exact ⟨k + 1, by omega, by go_num, Hn.out⟩
        case measure => simp [intOf]; omega
      · have Hy := Lib.hid (Hyes.out hxy)
        have cN := impl_notWire y gc n A0 c0 v1 false (decide_eq_false hxy) w bx
        clear Hnx Hyes hxy
        go_wp2_with fail
        refine cN.mono ?_
        rintro e w1 ⟨rfl, rfl⟩
        go_wp2_with fail
        go_ret
        exact ⟨_, rfl, ⟨fun _ => Hy.out, fun _ => k0⟩, rfl⟩
    · obtain rfl : k = m := by omega
      have Hno : Hid (wiresOk zs n) := (wiresOk_dec zs n).2 (fun j hj => hne.out j (by rw [← Hl.out]; exact hj))
      go_wp2_with fail
      go_ret
      exact ⟨_, rfl, ⟨fun h => by omega, fun h => absurd Hno.out h⟩, rfl⟩
theorem impl_ContainsWire (A0 : Option Addr) (gc n c0 : Nat) (v1 : Value) (A : Option Addr) (m c : Nat) (zs : List Int) (r : Bool) (hr : decide (wiresOk zs n) = r) (w : World) (bx : w.heap[gc]? = some (.cells #[.slice A0 n c0, v1] 31 (0, 0))) (hz : Ints w A zs) (hl : zs.length = m) (hm : m ≤ 1000000000000) :
    Calls Try.prog 129 #[.slice A m c, .func (.func 128) #[] #[.pointer (some ⟨gc, 0, none⟩)]] w fun e w' => e = .returned (.bool (!r)) ∧ w = w' := by
  go_enter Try.func129, Try.ntmps129
  go_wp2_with fail
  refine (impl_IndexWire A0 gc n c0 v1 A m c zs w bx hz hl hm).mono ?_
  rintro e w1 ⟨q, rfl, hq, rfl⟩
  have hd : decide (0 ≤ q) = !r := by
    rw [← hr]
    by_cases h : wiresOk zs n
    · rw [decide_eq_true h, decide_eq_false (fun e => hq.1 e h)]; rfl
    · rw [decide_eq_false h, decide_eq_true (hq.2 h)]; rfl
  have Hd := Lib.hid hd
  clear hq hd
  go_wp2_with fail
  go_ret
  exact ⟨ret_bool Hd.out, rfl⟩
set_option maxRecDepth 100000 in
set_option maxHeartbeats 1000000 in
theorem impl_canBuild_none (A0 : Option Addr) (n0 c0 : Nat) (z0 : List Int) (A1 : Option Addr) (n1 c1 : Nat) (z1 : List Int) (r : Bool) (hr : decide (canC14 z0 n0 z1) = r) (w : World) (h0 : Ints w A0 z0) (l0 : z0.length = n0 * 3) (m0 : n0 ≤ 1000000000000) (h1 : Ints w A1 z1) (l1 : z1.length = n1) (m1 : n1 ≤ 1000000000000) :
    Calls Try.prog 78 #[.agg #[.slice A0 n0 c0, .slice A1 n1 c1], .slice none 0 0] w fun e w' => e = .returned (.bool r) ∧ Below w.heap.size w w' := by
  have low := below_alloc w (.cells #[.slice A0 n0 c0, .slice A1 n1 c1] 31)
  have bx := heap_alloc_new w (.cells #[.slice A0 n0 c0, .slice A1 n1 c1] 31)
  have i0 := (h0.bound.below low).ints low.size
  have i1 := (h1.bound.below low).ints low.size
  by_cases hc : cirOk z0 n0 z1
  case neg =>
    obtain rfl : r = false := hr.symm.trans (decide_eq_false (fun e => hc e.1))
    have cC := impl_CircuitOk A0 n0 c0 z0 A1 n1 c1 z1 false (decide_eq_false hc) _ i0 l0 m0 i1 l1 m1
    clear hr hc h0 h1 i0 i1
    go_enter Try.func78, Try.ntmps78
    go_upto_region 1 with (fail)
    generalize hw0 : w.alloc (.cells #[.slice A0 n0 c0, .slice A1 n1 c1] 31) = w0 at *
    clear hw0
    have g0 := (blk (i := 0) bx rfl).1
    have g1 := (blk (i := 1) bx rfl).1
    go_wp2_with fail
    refine cC.mono ?_
    rintro e w1 ⟨rfl, hb⟩
    have low2 := Lib.hid (low.trans (hb.mono low.size))
    clear g0 g1 low hb bx
    go_wp2_with fail
    go_ret
    exact ⟨by first | rfl | simp, low2.out⟩
  case pos =>
    have cC := impl_CircuitOk A0 n0 c0 z0 A1 n1 c1 z1 true (decide_eq_true hc) _ i0 l0 m0 i1 l1 m1
    have hR : decide (n0 ≤ 5900) = r := by
      rw [← hr]
      by_cases h : n0 ≤ 5900
      · rw [decide_eq_true h, decide_eq_true (show canC14 z0 n0 z1 from ⟨hc, h⟩)]
      · rw [decide_eq_false h, decide_eq_false (fun e : canC14 z0 n0 z1 => h e.2)]
    clear hr h0 h1 i0 i1
    go_enter Try.func78, Try.ntmps78
    go_upto_region 1 with (fail)
    generalize hw0 : w.alloc (.cells #[.slice A0 n0 c0, .slice A1 n1 c1] 31) = w0 at *
    clear hw0
    have g0 := (blk (i := 0) bx rfl).1
    have g1 := (blk (i := 1) bx rfl).1
    go_wp2_with fail
    refine cC.mono ?_
    rintro e w1 ⟨rfl, hb⟩
    have bx1 := heap_below bx hb
    have low2 := low.trans (hb.mono low.size)
    clear g0 g1 low hb bx
    have g0 := (blk (i := 0) bx1 rfl).1
    by_cases h59 : n0 ≤ 5900
    · obtain rfl : r = true := by rw [← hR, decide_eq_true h59]
      have L2 := Lib.hid low2
      clear hR low2
      go_wp2_with fail
      go_loop [20] (fun i => i = .int .i64 0) (fun _ => 0)
      case atStart => rfl
      case round =>
        subst hrel
        go_wp2_with fail
        go_ret
        exact ⟨rfl, L2.out⟩
    · obtain rfl : r = false := by rw [← hR, decide_eq_false h59]
      have L2 := Lib.hid low2
      clear hR low2
      go_wp2_with fail
      go_ret
      exact ⟨by first | rfl | simp, L2.out⟩
/-- Two words, and a circuit with room. -/
def canB14 (z : List Int) (n : Nat) (os us ws : List Int) : Prop := canC14 z n os ∧ wordOk us n ∧ wordOk ws n
instance (z : List Int) (n : Nat) (os us ws : List Int) : Decidable (canB14 z n os us ws) := by unfold canB14; infer_instance
set_option maxRecDepth 100000 in
set_option maxHeartbeats 2000000 in
theorem impl_canBuild_two (A0 : Option Addr) (n0 c0 : Nat) (z0 : List Int) (A1 : Option Addr) (n1 c1 : Nat) (z1 : List Int) (A2 : Option Addr) (n2 c2 : Nat) (us : List Int) (A3 : Option Addr) (n3 c3 : Nat) (ws : List Int) (gw : Nat) (T : TypeId) (r : Bool) (hr : decide (canB14 z0 n0 z1 us ws) = r) (w : World) (h0 : Ints w A0 z0) (l0 : z0.length = n0 * 3) (m0 : n0 ≤ 1000000000000) (h1 : Ints w A1 z1) (l1 : z1.length = n1) (m1 : n1 ≤ 1000000000000)
    (h2 : Ints w A2 us) (l2 : us.length = n2) (m2 : n2 ≤ 1000000000000) (h3 : Ints w A3 ws) (l3 : ws.length = n3) (m3 : n3 ≤ 1000000000000) (bw : w.heap[gw]? = some (.cells #[.slice A2 n2 c2, .slice A3 n3 c3] T (0, 0))) :
    Calls Try.prog 78 #[.agg #[.slice A0 n0 c0, .slice A1 n1 c1], .slice (some ⟨gw, 0, none⟩) 2 2] w fun e w' => e = .returned (.bool r) ∧ Below w.heap.size w w' := by
  have low := below_alloc w (.cells #[.slice A0 n0 c0, .slice A1 n1 c1] 31)
  have bx := heap_alloc_new w (.cells #[.slice A0 n0 c0, .slice A1 n1 c1] 31)
  replace bw := heap_alloc bw (.cells #[.slice A0 n0 c0, .slice A1 n1 c1] 31)
  have i0 := (h0.bound.below low).ints low.size
  have i1 := (h1.bound.below low).ints low.size
  have i2 := (h2.bound.below low).ints low.size
  have i3 := (h3.bound.below low).ints low.size
  clear h2 h3 h0 h1
  by_cases hc : cirOk z0 n0 z1
  case neg =>
    obtain rfl : r = false := hr.symm.trans (decide_eq_false (fun e => hc e.1.1))
    have cC := impl_CircuitOk A0 n0 c0 z0 A1 n1 c1 z1 false (decide_eq_false hc) _ i0 l0 m0 i1 l1 m1
    clear hr hc i0 i1 i2 i3
    go_enter Try.func78, Try.ntmps78
    go_upto_region 1 with (fail)
    generalize hw0 : w.alloc (.cells #[.slice A0 n0 c0, .slice A1 n1 c1] 31) = w0 at *
    clear hw0
    have g0 := (blk (i := 0) bx rfl).1
    have g1 := (blk (i := 1) bx rfl).1
    go_wp2_with fail
    refine cC.mono ?_
    rintro e w1 ⟨rfl, hb⟩
    have low2 := Lib.hid (low.trans (hb.mono low.size))
    clear g0 g1 low hb bx
    go_wp2_with fail
    go_ret
    exact ⟨by first | rfl | simp, low2.out⟩
  case pos =>
    have cC := impl_CircuitOk A0 n0 c0 z0 A1 n1 c1 z1 true (decide_eq_true hc) _ i0 l0 m0 i1 l1 m1
    have HR := Lib.hid hr
    have HC := Lib.hid hc
    clear hr i0 i1 hc
    go_enter Try.func78, Try.ntmps78
    go_upto_region 1 with (fail)
    generalize hw0 : w.alloc (.cells #[.slice A0 n0 c0, .slice A1 n1 c1] 31) = w0 at *
    clear hw0
    have g0 := (blk (i := 0) bx rfl).1
    have g1 := (blk (i := 1) bx rfl).1
    go_wp2_with fail
    refine cC.mono ?_
    rintro e w1 ⟨rfl, hb⟩
    have bx1 := heap_below bx hb
    have bw1 := heap_below bw hb
    replace i2 := i2.below hb
    replace i3 := i3.below hb
    have low2 := low.trans (hb.mono low.size)
    clear g0 g1 low hb bx bw
    have g0 := (blk (i := 0) bx1 rfl).1
    by_cases h59 : n0 ≤ 5900
    · have L2 := Lib.hid low2
      have L59 := Lib.hid h59
      have e0 := (blk (i := 0) bw1 rfl).1
      have e1 := (blk (i := 1) bw1 rfl).1
      clear low2
      go_wp2_with fail
      go_loop [20] (fun i => ∃ k : Nat, k ≤ 2 ∧ i = .int .i64 k ∧ Hid (1 ≤ k → wordOk us n0) ∧ Hid (2 ≤ k → wordOk ws n0)) (fun i => 2 - (intOf i).toNat)
      case atStart => exact ⟨0, by omega, rfl, (show 1 ≤ 0 → _ from fun h => absurd h (by omega)), (show 2 ≤ 0 → _ from fun h => absurd h (by omega))⟩
      case round =>
        obtain ⟨k, hk, rfl, hU, hW⟩ := hrel
        rcases (show k = 0 ∨ k = 1 ∨ k = 2 by omega) with rfl | rfl | rfl
        · by_cases h4 : n2 = 4
          · have hwd : decide (wiresOk us n0) = decide (wordOk us n0) := by
              by_cases h : wiresOk us n0
              · rw [decide_eq_true h, decide_eq_true (show wordOk us n0 from ⟨by omega, h⟩)]
              · rw [decide_eq_false h, decide_eq_false (fun e : wordOk us n0 => h e.2)]
            have cW := impl_ContainsWire A0 (w.heap.size) n0 c0 (.slice A1 n1 c1) A2 n2 c2 us _ hwd w1 bx1 i2 l2 m2
            subst h4
            by_cases hx : wordOk us n0
            · rw [decide_eq_true hx] at cW
              have HX := Lib.hid hx
              clear hx hwd
              go_wp2_with fail
              refine cW.mono ?_
              rintro e w2 ⟨rfl, rfl⟩
              go_wp2_with fail
              go_round
              case rel => exact ⟨1, by omega, by go_num, (show 1 ≤ 1 → _ from fun _ => HX.out), (show 2 ≤ 1 → _ from fun h => absurd h (by omega))⟩
              case measure => simp [intOf]
            · rw [decide_eq_false hx] at cW
              obtain rfl : r = false := HR.out.symm.trans (decide_eq_false (fun e => hx e.2.1))
              clear hx hwd
              go_wp2_with fail
              refine cW.mono ?_
              rintro e w2 ⟨rfl, rfl⟩
              go_wp2_with fail
              go_ret
              exact ⟨by first | rfl | simp, L2.out⟩
          · obtain rfl : r = false := HR.out.symm.trans (decide_eq_false (fun e => h4 (by rw [← l2]; exact e.2.1.1)))
            have h5 : ((n2 : Int) != 4) = true := by simp; omega
            clear h4
            go_wp2_with fail
            go_ret
            exact ⟨by first | rfl | simp, L2.out⟩
        · by_cases h4 : n3 = 4
          · have hwd : decide (wiresOk ws n0) = decide (wordOk ws n0) := by
              by_cases h : wiresOk ws n0
              · rw [decide_eq_true h, decide_eq_true (show wordOk ws n0 from ⟨by omega, h⟩)]
              · rw [decide_eq_false h, decide_eq_false (fun e : wordOk ws n0 => h e.2)]
            have cW := impl_ContainsWire A0 (w.heap.size) n0 c0 (.slice A1 n1 c1) A3 n3 c3 ws _ hwd w1 bx1 i3 l3 m3
            subst h4
            by_cases hx : wordOk ws n0
            · rw [decide_eq_true hx] at cW
              have HX := Lib.hid hx
              clear hx hwd
              go_wp2_with fail
              refine cW.mono ?_
              rintro e w2 ⟨rfl, rfl⟩
              go_wp2_with fail
              go_round
              case rel => exact ⟨2, by omega, by go_num, (show 1 ≤ 2 → _ from fun _ => hU.out (by omega)), (show 2 ≤ 2 → _ from fun _ => HX.out)⟩
              case measure => simp [intOf]
            · rw [decide_eq_false hx] at cW
              obtain rfl : r = false := HR.out.symm.trans (decide_eq_false (fun e => hx e.2.2))
              clear hx hwd
              go_wp2_with fail
              refine cW.mono ?_
              rintro e w2 ⟨rfl, rfl⟩
              go_wp2_with fail
              go_ret
              exact ⟨by first | rfl | simp, L2.out⟩
          · obtain rfl : r = false := HR.out.symm.trans (decide_eq_false (fun e => h4 (by rw [← l3]; exact e.2.2.1)))
            have h5 : ((n3 : Int) != 4) = true := by simp; omega
            clear h4
            go_wp2_with fail
            go_ret
            exact ⟨by first | rfl | simp, L2.out⟩
        · obtain rfl : r = true := HR.out.symm.trans (decide_eq_true ⟨⟨HC.out, L59.out⟩, hU.out (by omega), hW.out (by omega)⟩)
          go_wp2_with fail
          go_ret
          exact ⟨by first | rfl | simp, L2.out⟩
    · obtain rfl : r = false := HR.out.symm.trans (decide_eq_false (fun e => h59 e.1.2))
      have L2 := Lib.hid low2
      clear low2
      go_wp2_with fail
      go_ret
      exact ⟨by first | rfl | simp, L2.out⟩
end Go.Proofs.Ytegdlegndgdgiaa
