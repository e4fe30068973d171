/- Compilation: the bits of inputs: the program's and the model's. No condition. -/
import Derived.Test.YtklekabjhehopaaProg
import Derived.Test.YtklekabjhehopaaM1
import Derived.Test.YtklekabjhehopaaCmA
import Derived.Test.YtklekabjhehopaaCirC
import Derived.Test.YtklekabjhehopaaR1
import Derived.Test.YtklekabjhehopaaB1
namespace Go.Proofs.Ytklekabjhehopaa
open Go Go.RowKit
/-- The first i numbers, zeros behind. -/
def padL (xs : List Int) (i : Nat) : List Int := xs.take i ++ List.replicate (xs.length - i) 0
theorem pad_set (xs : List Int) {i : Nat} (h : i < xs.length) : (padL xs i).set i (xs.getD i 0) = padL xs (i + 1) := by
  have hl : (xs.take i).length = i := by rw [List.length_take]; omega
  unfold padL
  rw [List.set_append_right _ _ (by omega), hl, Nat.sub_self, take_snoc h, List.append_assoc, show xs.length - i = (xs.length - (i + 1)) + 1 by omega, List.replicate_succ]
  rfl
theorem pad_all (xs : List Int) : padL xs xs.length = xs := by simp [padL]
theorem pad_zero (xs : List Int) : padL xs 0 = List.replicate xs.length 0 := by simp [padL]
set_option maxRecDepth 100000 in
set_option maxHeartbeats 2000000 in
theorem impl_InputBits (A : Option Addr) (n c : Nat) (I : List (List Int)) (w : World) (h2 : Rows w.heap.size w A I) (l2 : I.length = n) (hn : n ≤ 1999999) :
    Calls Try.prog 18 #[.slice A n c] w (Post_A (bitsI I) w) := by
  by_cases hin : insOk I
  case neg =>
    have cI := impl_InputsOk A n c I false (decide_eq_false hin) w h2 l2 (by omega)
    rw [show bitsI I = [] from if_neg hin]
    clear h2 hin l2
    go_enter Try.func18, Try.ntmps18
    go_wp2_with fail
    refine cI.mono ?_
    rintro e w1 ⟨rfl, rfl⟩
    go_wp2_with fail
    go_ret
    exact ⟨none, 0, 0, rfl, OwnA.nil _ _ _ _, Below.refl _ _⟩
  have cI := impl_InputsOk A n c I true (decide_eq_true hin) w h2 l2 (by omega)
  rw [show bitsI I = inB I from if_pos hin]
  have e5 : n = 5 := by rw [← l2]; exact hin.1
  subst e5
  have hw0 := wrapB (x := 80) (by omega) (by omega)
  have HA := Lib.hid (pad_all (inB I))
  have HL := Lib.hid (inB_length I)
  go_enter Try.func18, Try.ntmps18
  go_wp2_with fail
  refine cI.mono ?_
  rintro e w1 ⟨rfl, rfl⟩
  clear cI
  go_wp2_with (first | (refine make_fullI Try.underlying29 infoInt rfl rfl _ _ rfl w.heap.size _ _ _ _ 80 rfl rfl rfl rfl (by omega) (by unfold maxLen; omega) (Nat.le_refl _) ?_))
  intro w3 hown3 hg3
  have S0 := Lib.hid (show Grow w w3 (.slice (some ⟨w.heap.size, 0, none⟩) 80 80) 80 (padL (inB I) 0) from ⟨by rw [pad_zero, inB_length]; exact hown3, (Below.refl _ _).grown hg3 (Nat.le_refl _) (fun k h => by cases h)⟩)
  clear hown3 hg3
  go_wp2_with fail
  go_loopw [16] (fun i wr => ∃ p : Nat, p ≤ 5 ∧ i = .int .i64 p ∧ Grow w wr (.slice (some ⟨w.heap.size, 0, none⟩) 80 80) 80 (padL (inB I) (p * 16))) (fun i _ => 5 - (intOf i).toNat)
  case atStart => exact ⟨0, by omega, rfl, S0.out⟩
  case round =>
    obtain ⟨p, hp, rfl, gr⟩ := hrel
    clear S0
    by_cases hlt : p < 5
    · have p0 : (0 : Int) ≤ p := by omega
      have p1 : (p : Int) < 5 := by omega
      obtain ⟨b, o, Aj, cj, rfl, hb, cr, ir⟩ := (h2.below gr.low).at_ (j := p) (by omega)
      obtain ⟨hr4, hrv⟩ := hin.row hlt
      rw [hr4] at cr
      have S1 := Lib.hid gr
      clear gr
      go_wp2_with fail
      go_loopw [23] (fun i wr => ∃ m : Nat, m ≤ 4 ∧ i = .int .i64 m ∧ Grow w wr (.slice (some ⟨w.heap.size, 0, none⟩) 80 80) 80 (padL (inB I) (p * 16 + m * 4)) ∧ IntsB w.heap.size wr Aj (I.getD p [])) (fun i _ => 4 - (intOf i).toNat)
      case atStart => exact ⟨0, by omega, rfl, S1.out, ir⟩
      case round =>
        obtain ⟨m, hm, rfl, gr, ir⟩ := hrel
        clear S1
        by_cases hlm : m < 4
        · have m0 : (0 : Int) ≤ m := by omega
          have m1 : (m : Int) < 4 := by omega
          obtain ⟨bj, oj, rfl, hbj, cv⟩ := ir.at_ (j := m) (by omega)
          have hv := hrv _ (gD_mem (d := 0) (show m < (I.getD p []).length by omega))
          have HV := Lib.hid (fun k (hk : k < 4) => inB_at I hlt hlm hk)
          generalize (I.getD p []).getD m 0 = y at *
          have S2 := Lib.hid (And.intro gr ir)
          have HQ := Lib.hid (show p * 16 + m * 4 = (p * 4 + m) * 4 + 0 by omega)
          have cF := impl_firstInputBit p m (by omega) (by omega) wr
          generalize hq : p * 4 + m = q at *
          have q20 : q < 20 := by omega
          clear gr ir
          go_wp2_with fail
          refine cF.mono ?_
          rintro e w4 ⟨rfl, rfl⟩
          clear cF
          go_wp2_with fail
          go_loopw [31] (fun i wr => ∃ k : Nat, k ≤ 4 ∧ i = .int .i64 k ∧ Grow w wr (.slice (some ⟨w.heap.size, 0, none⟩) 80 80) 80 (padL (inB I) (q * 4 + k)) ∧ IntsB w.heap.size wr (some ⟨bj, oj, none⟩) (I.getD p [])) (fun i _ => 4 - (intOf i).toNat)
          case atStart => exact ⟨0, by omega, rfl, by rw [← HQ.out]; exact S2.out.1, S2.out.2⟩
          case round =>
            obtain ⟨k, hk, rfl, gr, ir⟩ := hrel
            clear S2
            by_cases hlk : k < 4
            · have k0 : (0 : Int) ≤ k := by omega
              have k1 : (k : Int) < 4 := by omega
              have hbit := bit_at hlk hv
              have q0 : (0 : Int) ≤ (q : Int) * 4 + (k : Int) := by omega
              have q1 : (q : Int) * 4 + (k : Int) < 80 := by omega
              have q2 : ((q : Int) * 4 + (k : Int)).toNat = q * 4 + k := by omega
              have qw : IntKind.i64.wrap ((q : Int) * 4 + (k : Int)) = (q : Int) * 4 + (k : Int) := wrapB (by omega) (by omega)
              have hs := gr.set (Nat.le_refl _) (q * 4 + k) (y / 2 ^ k % 2)
              rw [← HV.out k hlk, pad_set (inB I) (by rw [HL.out]; omega)] at hs
              have H := Lib.hid hs
              obtain ⟨z0, z1⟩ := gr.at_ (j := q * 4 + k) (by omega)
              rw [HV.out k hlk] at H
              have I2 := Lib.hid (ir.below ((Below.refl w.heap.size wr).setCell (p := ⟨w.heap.size, q * 4 + k, none⟩) (Nat.le_refl _) (.int .i64 (y / 2 ^ k % 2))))
              clear hs gr ir
              go_wp2_with fail
              go_roundw
              case rel => exact ⟨k + 1, by omega, by go_num, H.out, I2.out⟩
              case measure => simp [intOf]; omega
            · obtain rfl : k = 4 := by omega
              have H := Lib.hid (And.intro (show Grow w wr (.slice (some ⟨w.heap.size, 0, none⟩) 80 80) 80 (padL (inB I) (p * 16 + (m + 1) * 4)) by rw [show p * 16 + (m + 1) * 4 = q * 4 + 4 by omega]; exact gr) ir)
              clear gr ir
              rw [show ((4 : Nat) : Int) = 4 from rfl]
              go_wp2_with fail
              go_roundw
              case rel => exact ⟨m + 1, by omega, by go_num, H.out.1, H.out.2⟩
              case measure => simp [intOf]; omega
        · obtain rfl : m = 4 := by omega
          have H := Lib.hid (show Grow w wr (.slice (some ⟨w.heap.size, 0, none⟩) 80 80) 80 (padL (inB I) ((p + 1) * 16)) by rw [show (p + 1) * 16 = p * 16 + 4 * 4 by omega]; exact gr)
          clear gr ir
          rw [show ((4 : Nat) : Int) = 4 from rfl]
          go_wp2_with fail
          go_roundw
          case rel => exact ⟨p + 1, by omega, by go_num, H.out⟩
          case measure => simp [intOf]; omega
    · obtain rfl : p = 5 := by omega
      have hd := gr.done
      rw [show padL (inB I) (5 * 16) = inB I by rw [show 5 * 16 = (inB I).length by rw [HL.out]]; exact HA.out] at hd
      obtain ⟨A', m', c', he, hl, ho, hb⟩ := hd
      injection he with he
      injection he with he1 he2 he3
      subst he1 he2 he3
      have O := Lib.hid (And.intro ho.any hb)
      clear gr ho hl hb
      go_wp2_with fail
      go_ret
      exact ⟨_, _, _, rfl, O.out.1, O.out.2⟩
set_option maxRecDepth 100000 in
set_option maxHeartbeats 2000000 in
theorem spec_InputBits (A : Option Addr) (n c : Nat) (I : List (List Int)) (w : World) (h2 : Rows w.heap.size w A I) (l2 : I.length = n) (hn : n ≤ 1999999) :
    Calls Try.prog 21 #[.slice A n c] w (Post_A (bitsI I) w) := by
  have al := below_alloc w (.cells #[] 3)
  have r1 := h2.next al
  have G0 := Grow.empty (w := w) (wr := w) (Below.refl _ _)
  by_cases hin : insOk I
  case neg =>
    have cI := fun W (H : Rows W.heap.size W A I) => spec_InputsOk A n c I false (decide_eq_false hin) W H l2 (by omega)
    rw [show bitsI I = [] from if_neg hin]
    have S0 := Lib.hid (And.intro r1 G0)
    generalize hw1 : w.alloc (.cells #[] 3) = w1 at *
    clear G0 r1 h2 hin
    go_enter Try.func21, Try.ntmps21
    go_wp2_with fail
    go_loopw [3, 4] (fun s i wr => s = .slice (some ⟨w.heap.size, 0, none⟩) 0 0 ∧ i = .int .i64 0 ∧ wr = w1) (fun _ _ _ => 0)
    case atStart => exact ⟨rfl, rfl, rfl⟩
    case round =>
      obtain ⟨rfl, rfl, rfl⟩ := hrel
      have hd := S0.out.2.done
      obtain ⟨A', m', c', he, hl, ho, hb⟩ := hd
      injection he with he
      injection he with he1 he2 he3
      subst he1 he2 he3
      have O := Lib.hid (And.intro ho.any hb)
      clear ho hl hb
      by_cases h0 : n = 0
      · subst h0
        clear cI
        go_wp2_with fail
        go_ret
        exact ⟨_, _, _, rfl, O.out.1, O.out.2⟩
      · have n0 : 0 < n := by omega
        go_wp2_with fail
        refine (cI wr S0.out.1).mono ?_
        rintro e w4 ⟨rfl, rfl⟩
        clear cI
        go_wp2_with fail
        go_ret
        exact ⟨_, _, _, rfl, O.out.1, O.out.2⟩
  have cI := fun W (H : Rows W.heap.size W A I) => spec_InputsOk A n c I true (decide_eq_true hin) W H l2 (by omega)
  rw [show bitsI I = inB I from if_pos hin]
  have e5 : n = 5 := by rw [← l2]; exact hin.1
  subst e5
  have HA := Lib.hid (show (inB I).take 80 = inB I from List.take_of_length_le (by rw [inB_length]; exact Nat.le_refl _))
  have HL := Lib.hid (inB_length I)
  have S0 := Lib.hid G0
  clear G0 r1
  go_enter Try.func21, Try.ntmps21
  go_wp2_with fail
  go_loopw [3, 4] (fun s i wr => ∃ p : Nat, p ≤ 5 ∧ i = .int .i64 p ∧ Grow w wr s (p * 16) ((inB I).take (p * 16))) (fun _ i _ => 5 - (intOf i).toNat)
  case atStart => exact ⟨0, by omega, rfl, S0.out⟩
  case round =>
    obtain ⟨p, hp, rfl, gr⟩ := hrel
    clear S0
    by_cases hlt : p < 5
    · have p0 : (0 : Int) ≤ p := by omega
      have p1 : (p : Int) < 5 := by omega
      have S1 := Lib.hid gr
      have R1 := (h2.below gr.low).more gr.size
      clear gr
      go_wp2_with fail
      refine (cI wr R1).mono ?_
      rintro e w4 ⟨rfl, rfl⟩
      clear R1
      go_wp2_with fail
      go_loopw [3, 5] (fun s i wr => ∃ m : Nat, m ≤ 4 ∧ i = .int .i64 m ∧ Grow w wr s (p * 16 + m * 4) ((inB I).take (p * 16 + m * 4))) (fun _ i _ => 4 - (intOf i).toNat)
      case atStart => exact ⟨0, by omega, rfl, S1.out⟩
      case round =>
        obtain ⟨m, hm, rfl, gr⟩ := hrel
        clear S1
        by_cases hlm : m < 4
        · have m0 : (0 : Int) ≤ m := by omega
          have m1 : (m : Int) < 4 := by omega
          obtain ⟨hr4, hrv⟩ := hin.row hlt
          have hv := hrv _ (gD_mem (d := 0) (show m < (I.getD p []).length by omega))
          have HV := Lib.hid (fun k (hk : k < 4) => inB_at I hlt hlm hk)
          have S2 := Lib.hid gr
          have HQ := Lib.hid (show p * 16 + m * 4 = (p * 4 + m) * 4 + 0 by omega)
          obtain ⟨y, hy⟩ : ∃ y, (I.getD p []).getD m 0 = y := ⟨_, rfl⟩
          rw [hy] at hv HV
          generalize hq : p * 4 + m = q at *
          have q20 : q < 20 := by omega
          clear gr
          go_wp2_with fail
          go_loopw [3, 6] (fun s i wr => ∃ k : Nat, k ≤ 4 ∧ i = .int .i64 k ∧ Grow w wr s (q * 4 + k) ((inB I).take (q * 4 + k))) (fun _ i _ => 4 - (intOf i).toNat)
          case atStart => exact ⟨0, by omega, rfl, by rw [← HQ.out]; exact S2.out⟩
          case round =>
            obtain ⟨k, hk, rfl, gr⟩ := hrel
            clear S2
            by_cases hlk : k < 4
            · have k0 : (0 : Int) ≤ k := by omega
              have k1 : (k : Int) < 4 := by omega
              obtain ⟨b, o, Aj, cj, rfl, hb, cr, ir⟩ := (h2.below gr.low).at_ (j := p) (by omega)
              rw [hr4] at cr
              obtain ⟨bj, oj, rfl, hbj, cv⟩ := ir.at_ (j := m) (by omega)
              rw [hy] at cv
              have hbit := bit_at hlk hv
              have HT := Lib.hid (take_snoc (l := inB I) (k := q * 4 + k) (by rw [HL.out]; omega))
              rw [HV.out k hlk] at HT
              obtain ⟨Au, mu, cu, rfl, rfl⟩ := ownsRow_slice gr.own
              have gs := gr.size
              clear ir
              generalize (inB I).take (q * 4 + k) = L at *
              go_wp2_with (first | (at_builtin; refine app_list (e' := 3) elemInt rfl _ _ rfl w.heap.size _ (q * 4 + k) (intVals L) rfl (gr.alloc (.cells #[.int .i64 (y / 2 ^ k % 2)] 3)).own wr.heap.size 1 1 _ (0, 0) rfl (heap_alloc_new wr _) rfl (oneCell_i64 [_]) (by omega) (by unfold maxLen; omega) (by omega) (by simp; omega) (wr.heap.size + 1) (by simp) ?_))
              intro g5 c5 w5 ho5 hg5 hat5 _
              have H := Lib.hid ((gr.alloc (.cells #[.int .i64 (y / 2 ^ k % 2)] 3)).app (ys := L ++ [y / 2 ^ k % 2]) ho5 hg5 (by simp [intVals]))
              clear gr ho5 hg5 hat5
              go_wp2_with fail
              go_roundw
              case rel => exact ⟨k + 1, by omega, by go_num, by rw [show q * 4 + (k + 1) = q * 4 + k + 1 by omega, HT.out]; exact H.out⟩
              case measure => simp [intOf]; omega
            · obtain rfl : k = 4 := by omega
              have H := Lib.hid (show Grow w wr _ (p * 16 + (m + 1) * 4) ((inB I).take (p * 16 + (m + 1) * 4)) by rw [show p * 16 + (m + 1) * 4 = q * 4 + 4 by omega]; exact gr)
              clear gr
              rw [show ((4 : Nat) : Int) = 4 from rfl]
              go_wp2_with fail
              go_roundw
              case rel => exact ⟨m + 1, by omega, by go_num, H.out⟩
              case measure => simp [intOf]; omega
        · obtain rfl : m = 4 := by omega
          have H := Lib.hid (show Grow w wr _ ((p + 1) * 16) ((inB I).take ((p + 1) * 16)) by rw [show (p + 1) * 16 = p * 16 + 4 * 4 by omega]; exact gr)
          clear gr
          rw [show ((4 : Nat) : Int) = 4 from rfl]
          go_wp2_with fail
          go_roundw
          case rel => exact ⟨p + 1, by omega, by go_num, H.out⟩
          case measure => simp [intOf]; omega
    · obtain rfl : p = 5 := by omega
      rw [show 5 * 16 = 80 from rfl, HA.out] at gr
      have hd := gr.done
      obtain ⟨A', m', c', he, hl, ho, hb⟩ := hd
      injection he with he
      subst he
      have O := Lib.hid (And.intro ho.any hb)
      clear gr ho hl hb cI
      go_wp2_with fail
      go_ret
      exact ⟨_, _, _, rfl, O.out.1, O.out.2⟩
end Go.Proofs.Ytklekabjhehopaa
