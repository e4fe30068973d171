/- Tests of any number of bits: in BitN. No condition. And what goes with it. -/
import Derived.Test.YtbbdmgomcpmhpaaProg
import Derived.Test.YtbbdmgomcpmhpaaBitN
import Derived.Test.YtbbdmgomcpmhpaaM1
import Derived.Test.YtbbdmgomcpmhpaaCmA
import Derived.Test.YtbbdmgomcpmhpaaCirC
import Derived.Test.YtbbdmgomcpmhpaaR1
import Derived.Test.YtbbdmgomcpmhpaaB1
import Derived.Deep.RegionHeld3
import Derived.Test.YtbbdmgomcpmhpaaCirD
import Derived.Deep.CutBlock
namespace Go.Proofs.Ytbbdmgomcpmhpaa
open Go Go.RowKit
end Go.Proofs.Ytbbdmgomcpmhpaa

namespace Go.Proofs.Ytbbdmgomcpmhpaa
open Go Go.RowKit
/-- The first i numbers, zeros behind. -/
def padL (xs : List Int) (i : Nat) : List Int := xs.take i ++ List.replicate (xs.length - i) 0
theorem pad_set (xs : List Int) {i : Nat} (h : i < xs.length) : (padL xs i).set i (xs.getD i 0) = padL xs (i + 1) := by
  have hl : (xs.take i).length = i := by rw [List.length_take]; omega
  unfold padL
  rw [List.set_append_right _ _ (by omega), hl, Nat.sub_self, take_snoc h, List.append_assoc, show xs.length - i = (xs.length - (i + 1)) + 1 by omega, List.replicate_succ]
  rfl
theorem pad_all (xs : List Int) : padL xs xs.length = xs := by simp [padL]
theorem pad_zero (xs : List Int) : padL xs 0 = List.replicate xs.length 0 := by simp [padL]
set_option maxRecDepth 100000 in
set_option maxHeartbeats 2000000 in
theorem impl_InputBits (A : Option Addr) (n c : Nat) (I : List (List Int)) (w : World) (h2 : Rows w.heap.size w A I) (l2 : I.length = n) (hn : n ≤ 1999999) :
    Calls Try.prog 46 #[.slice A n c] w (Post_A (bitsI I) w) := by
  by_cases hin : insOk I
  case neg =>
    have cI := impl_InputsOk A n c I false (decide_eq_false hin) w h2 l2 (by omega)
    rw [show bitsI I = [] from if_neg hin]
    clear h2 hin l2
    go_enter Try.func46, Try.ntmps46
    go_wp2_with fail
    refine cI.mono ?_
    rintro e w1 ⟨rfl, rfl⟩
    go_wp2_with fail
    go_ret
    exact ⟨none, 0, 0, rfl, OwnA.nil _ _ _ _, Below.refl _ _⟩
  have cI := impl_InputsOk A n c I true (decide_eq_true hin) w h2 l2 (by omega)
  rw [show bitsI I = inB I from if_pos hin]
  have e5 : n = 5 := by rw [← l2]; exact hin.1
  subst e5
  have hw0 := wrapB (x := 80) (by omega) (by omega)
  have HA := Lib.hid (pad_all (inB I))
  have HL := Lib.hid (inB_length I)
  go_enter Try.func46, Try.ntmps46
  go_wp2_with fail
  refine cI.mono ?_
  rintro e w1 ⟨rfl, rfl⟩
  clear cI
  go_wp2_with (first | (refine make_fullI Try.underlying25 infoInt rfl rfl _ _ rfl w.heap.size _ _ _ _ 80 rfl rfl rfl rfl (by omega) (by unfold maxLen; omega) (Nat.le_refl _) ?_))
  intro w3 hown3 hg3
  have S0 := Lib.hid (show Grow w w3 (.slice (some ⟨w.heap.size, 0, none⟩) 80 80) 80 (padL (inB I) 0) from ⟨by rw [pad_zero, inB_length]; exact hown3, (Below.refl _ _).grown hg3 (Nat.le_refl _) (fun k h => by cases h)⟩)
  clear hown3 hg3
  go_wp2_with fail
  go_loopw [16] (fun i wr => ∃ p : Nat, p ≤ 5 ∧ i = .int .i64 p ∧ Grow w wr (.slice (some ⟨w.heap.size, 0, none⟩) 80 80) 80 (padL (inB I) (p * 16))) (fun i _ => 5 - (intOf i).toNat)
  case atStart => exact ⟨0, by omega, rfl, S0.out⟩
  case round =>
    obtain ⟨p, hp, rfl, gr⟩ := hrel
    clear S0
    by_cases hlt : p < 5
    · have p0 : (0 : Int) ≤ p := by omega
      have p1 : (p : Int) < 5 := by omega
      obtain ⟨b, o, Aj, cj, rfl, hb, cr, ir⟩ := (h2.below gr.low).at_ (j := p) (by omega)
      obtain ⟨hr4, hrv⟩ := hin.row hlt
      rw [hr4] at cr
      have S1 := Lib.hid gr
      clear gr
      go_wp2_with fail
      go_loopw [23] (fun i wr => ∃ m : Nat, m ≤ 4 ∧ i = .int .i64 m ∧ Grow w wr (.slice (some ⟨w.heap.size, 0, none⟩) 80 80) 80 (padL (inB I) (p * 16 + m * 4)) ∧ IntsB w.heap.size wr Aj (I.getD p [])) (fun i _ => 4 - (intOf i).toNat)
      case atStart => exact ⟨0, by omega, rfl, S1.out, ir⟩
      case round =>
        obtain ⟨m, hm, rfl, gr, ir⟩ := hrel
        clear S1
        by_cases hlm : m < 4
        · have m0 : (0 : Int) ≤ m := by omega
          have m1 : (m : Int) < 4 := by omega
          obtain ⟨bj, oj, rfl, hbj, cv⟩ := ir.at_ (j := m) (by omega)
          have hv := hrv _ (gD_mem (d := 0) (show m < (I.getD p []).length by omega))
          have HV := Lib.hid (fun k (hk : k < 4) => inB_at I hlt hlm hk)
          generalize (I.getD p []).getD m 0 = y at *
          have S2 := Lib.hid (And.intro gr ir)
          have HQ := Lib.hid (show p * 16 + m * 4 = (p * 4 + m) * 4 + 0 by omega)
          have cF := impl_firstInputBit p m (by omega) (by omega) wr
          generalize hq : p * 4 + m = q at *
          have q20 : q < 20 := by omega
          clear gr ir
          go_wp2_with fail
          refine cF.mono ?_
          rintro e w4 ⟨rfl, rfl⟩
          clear cF
          go_wp2_with fail
          go_loopw [31] (fun i wr => ∃ k : Nat, k ≤ 4 ∧ i = .int .i64 k ∧ Grow w wr (.slice (some ⟨w.heap.size, 0, none⟩) 80 80) 80 (padL (inB I) (q * 4 + k)) ∧ IntsB w.heap.size wr (some ⟨bj, oj, none⟩) (I.getD p [])) (fun i _ => 4 - (intOf i).toNat)
          case atStart => exact ⟨0, by omega, rfl, by rw [← HQ.out]; exact S2.out.1, S2.out.2⟩
          case round =>
            obtain ⟨k, hk, rfl, gr, ir⟩ := hrel
            clear S2
            by_cases hlk : k < 4
            · have k0 : (0 : Int) ≤ k := by omega
              have k1 : (k : Int) < 4 := by omega
              have hbit := bit_at hlk hv
              have q0 : (0 : Int) ≤ (q : Int) * 4 + (k : Int) := by omega
              have q1 : (q : Int) * 4 + (k : Int) < 80 := by omega
              have q2 : ((q : Int) * 4 + (k : Int)).toNat = q * 4 + k := by omega
              have qw : IntKind.i64.wrap ((q : Int) * 4 + (k : Int)) = (q : Int) * 4 + (k : Int) := wrapB (by omega) (by omega)
              have hs := gr.set (Nat.le_refl _) (q * 4 + k) (y / 2 ^ k % 2)
              rw [← HV.out k hlk, pad_set (inB I) (by rw [HL.out]; omega)] at hs
              have H := Lib.hid hs
              obtain ⟨z0, z1⟩ := gr.at_ (j := q * 4 + k) (by omega)
              rw [HV.out k hlk] at H
              have I2 := Lib.hid (ir.below ((Below.refl w.heap.size wr).setCell (p := ⟨w.heap.size, q * 4 + k, none⟩) (Nat.le_refl _) (.int .i64 (y / 2 ^ k % 2))))
              clear hs gr ir
              go_wp2_with fail
              go_roundw
              case rel => exact ⟨k + 1, by omega, by go_num, H.out, I2.out⟩
              case measure => simp [intOf]; omega
            · obtain rfl : k = 4 := by omega
              have H := Lib.hid (And.intro (show Grow w wr (.slice (some ⟨w.heap.size, 0, none⟩) 80 80) 80 (padL (inB I) (p * 16 + (m + 1) * 4)) by rw [show p * 16 + (m + 1) * 4 = q * 4 + 4 by omega]; exact gr) ir)
              clear gr ir
              rw [show ((4 : Nat) : Int) = 4 from rfl]
              go_wp2_with fail
              go_roundw
              case rel => exact ⟨m + 1, by omega, by go_num, H.out.1, H.out.2⟩
              case measure => simp [intOf]; omega
        · obtain rfl : m = 4 := by omega
          have H := Lib.hid (show Grow w wr (.slice (some ⟨w.heap.size, 0, none⟩) 80 80) 80 (padL (inB I) ((p + 1) * 16)) by rw [show (p + 1) * 16 = p * 16 + 4 * 4 by omega]; exact gr)
          clear gr ir
          rw [show ((4 : Nat) : Int) = 4 from rfl]
          go_wp2_with fail
          go_roundw
          case rel => exact ⟨p + 1, by omega, by go_num, H.out⟩
          case measure => simp [intOf]; omega
    · obtain rfl : p = 5 := by omega
      have hd := gr.done
      rw [show padL (inB I) (5 * 16) = inB I by rw [show 5 * 16 = (inB I).length by rw [HL.out]]; exact HA.out] at hd
      obtain ⟨A', m', c', he, hl, ho, hb⟩ := hd
      injection he with he
      injection he with he1 he2 he3
      subst he1 he2 he3
      have O := Lib.hid (And.intro ho.any hb)
      clear gr ho hl hb
      go_wp2_with fail
      go_ret
      exact ⟨_, _, _, rfl, O.out.1, O.out.2⟩
set_option maxRecDepth 100000 in
set_option maxHeartbeats 2000000 in
theorem spec_InputBits (A : Option Addr) (n c : Nat) (I : List (List Int)) (w : World) (h2 : Rows w.heap.size w A I) (l2 : I.length = n) (hn : n ≤ 1999999) :
    Calls Try.prog 41 #[.slice A n c] w (Post_A (bitsI I) w) := by
  have al := below_alloc w (.cells #[] 3)
  have r1 := h2.next al
  have G0 := Grow.empty (w := w) (wr := w) (Below.refl _ _)
  by_cases hin : insOk I
  case neg =>
    have cI := fun W (H : Rows W.heap.size W A I) => spec_InputsOk A n c I false (decide_eq_false hin) W H l2 (by omega)
    rw [show bitsI I = [] from if_neg hin]
    have S0 := Lib.hid (And.intro r1 G0)
    generalize hw1 : w.alloc (.cells #[] 3) = w1 at *
    clear G0 r1 h2 hin
    go_enter Try.func41, Try.ntmps41
    go_wp2_with fail
    go_loopw [3, 4] (fun s i wr => s = .slice (some ⟨w.heap.size, 0, none⟩) 0 0 ∧ i = .int .i64 0 ∧ wr = w1) (fun _ _ _ => 0)
    case atStart => exact ⟨rfl, rfl, rfl⟩
    case round =>
      obtain ⟨rfl, rfl, rfl⟩ := hrel
      have hd := S0.out.2.done
      obtain ⟨A', m', c', he, hl, ho, hb⟩ := hd
      injection he with he
      injection he with he1 he2 he3
      subst he1 he2 he3
      have O := Lib.hid (And.intro ho.any hb)
      clear ho hl hb
      by_cases h0 : n = 0
      · subst h0
        clear cI
        go_wp2_with fail
        go_ret
        exact ⟨_, _, _, rfl, O.out.1, O.out.2⟩
      · have n0 : 0 < n := by omega
        go_wp2_with fail
        refine (cI wr S0.out.1).mono ?_
        rintro e w4 ⟨rfl, rfl⟩
        clear cI
        go_wp2_with fail
        go_ret
        exact ⟨_, _, _, rfl, O.out.1, O.out.2⟩
  have cI := fun W (H : Rows W.heap.size W A I) => spec_InputsOk A n c I true (decide_eq_true hin) W H l2 (by omega)
  rw [show bitsI I = inB I from if_pos hin]
  have e5 : n = 5 := by rw [← l2]; exact hin.1
  subst e5
  have HA := Lib.hid (show (inB I).take 80 = inB I from List.take_of_length_le (by rw [inB_length]; exact Nat.le_refl _))
  have HL := Lib.hid (inB_length I)
  have S0 := Lib.hid G0
  clear G0 r1
  go_enter Try.func41, Try.ntmps41
  go_wp2_with fail
  go_loopw [3, 4] (fun s i wr => ∃ p : Nat, p ≤ 5 ∧ i = .int .i64 p ∧ Grow w wr s (p * 16) ((inB I).take (p * 16))) (fun _ i _ => 5 - (intOf i).toNat)
  case atStart => exact ⟨0, by omega, rfl, S0.out⟩
  case round =>
    obtain ⟨p, hp, rfl, gr⟩ := hrel
    clear S0
    by_cases hlt : p < 5
    · have p0 : (0 : Int) ≤ p := by omega
      have p1 : (p : Int) < 5 := by omega
      have S1 := Lib.hid gr
      have R1 := (h2.below gr.low).more gr.size
      clear gr
      go_wp2_with fail
      refine (cI wr R1).mono ?_
      rintro e w4 ⟨rfl, rfl⟩
      clear R1
      go_wp2_with fail
      go_loopw [3, 5] (fun s i wr => ∃ m : Nat, m ≤ 4 ∧ i = .int .i64 m ∧ Grow w wr s (p * 16 + m * 4) ((inB I).take (p * 16 + m * 4))) (fun _ i _ => 4 - (intOf i).toNat)
      case atStart => exact ⟨0, by omega, rfl, S1.out⟩
      case round =>
        obtain ⟨m, hm, rfl, gr⟩ := hrel
        clear S1
        by_cases hlm : m < 4
        · have m0 : (0 : Int) ≤ m := by omega
          have m1 : (m : Int) < 4 := by omega
          obtain ⟨hr4, hrv⟩ := hin.row hlt
          have hv := hrv _ (gD_mem (d := 0) (show m < (I.getD p []).length by omega))
          have HV := Lib.hid (fun k (hk : k < 4) => inB_at I hlt hlm hk)
          have S2 := Lib.hid gr
          have HQ := Lib.hid (show p * 16 + m * 4 = (p * 4 + m) * 4 + 0 by omega)
          obtain ⟨y, hy⟩ : ∃ y, (I.getD p []).getD m 0 = y := ⟨_, rfl⟩
          rw [hy] at hv HV
          generalize hq : p * 4 + m = q at *
          have q20 : q < 20 := by omega
          clear gr
          go_wp2_with fail
          go_loopw [3, 6] (fun s i wr => ∃ k : Nat, k ≤ 4 ∧ i = .int .i64 k ∧ Grow w wr s (q * 4 + k) ((inB I).take (q * 4 + k))) (fun _ i _ => 4 - (intOf i).toNat)
          case atStart => exact ⟨0, by omega, rfl, by rw [← HQ.out]; exact S2.out⟩
          case round =>
            obtain ⟨k, hk, rfl, gr⟩ := hrel
            clear S2
            by_cases hlk : k < 4
            · have k0 : (0 : Int) ≤ k := by omega
              have k1 : (k : Int) < 4 := by omega
              obtain ⟨b, o, Aj, cj, rfl, hb, cr, ir⟩ := (h2.below gr.low).at_ (j := p) (by omega)
              rw [hr4] at cr
              obtain ⟨bj, oj, rfl, hbj, cv⟩ := ir.at_ (j := m) (by omega)
              rw [hy] at cv
              have hbit := bit_at hlk hv
              have HT := Lib.hid (take_snoc (l := inB I) (k := q * 4 + k) (by rw [HL.out]; omega))
              rw [HV.out k hlk] at HT
              obtain ⟨Au, mu, cu, rfl, rfl⟩ := ownsRow_slice gr.own
              have gs := gr.size
              clear ir
              generalize (inB I).take (q * 4 + k) = L at *
              go_wp2_with (first | (at_builtin; refine app_list (e' := 3) elemInt rfl _ _ rfl w.heap.size _ (q * 4 + k) (intVals L) rfl (gr.alloc (.cells #[.int .i64 (y / 2 ^ k % 2)] 3)).own wr.heap.size 1 1 _ (0, 0) rfl (heap_alloc_new wr _) rfl (oneCell_i64 [_]) (by omega) (by unfold maxLen; omega) (by omega) (by simp; omega) (wr.heap.size + 1) (by simp) ?_))
              intro g5 c5 w5 ho5 hg5 hat5 _
              have H := Lib.hid ((gr.alloc (.cells #[.int .i64 (y / 2 ^ k % 2)] 3)).app (ys := L ++ [y / 2 ^ k % 2]) ho5 hg5 (by simp [intVals]))
              clear gr ho5 hg5 hat5
              go_wp2_with fail
              go_roundw
              case rel => exact ⟨k + 1, by omega, by go_num, by rw [show q * 4 + (k + 1) = q * 4 + k + 1 by omega, HT.out]; exact H.out⟩
              case measure => simp [intOf]; omega
            · obtain rfl : k = 4 := by omega
              have H := Lib.hid (show Grow w wr _ (p * 16 + (m + 1) * 4) ((inB I).take (p * 16 + (m + 1) * 4)) by rw [show p * 16 + (m + 1) * 4 = q * 4 + 4 by omega]; exact gr)
              clear gr
              rw [show ((4 : Nat) : Int) = 4 from rfl]
              go_wp2_with fail
              go_roundw
              case rel => exact ⟨m + 1, by omega, by go_num, H.out⟩
              case measure => simp [intOf]; omega
        · obtain rfl : m = 4 := by omega
          have H := Lib.hid (show Grow w wr _ ((p + 1) * 16) ((inB I).take ((p + 1) * 16)) by rw [show (p + 1) * 16 = p * 16 + 4 * 4 by omega]; exact gr)
          clear gr
          rw [show ((4 : Nat) : Int) = 4 from rfl]
          go_wp2_with fail
          go_roundw
          case rel => exact ⟨p + 1, by omega, by go_num, H.out⟩
          case measure => simp [intOf]; omega
    · obtain rfl : p = 5 := by omega
      rw [show 5 * 16 = 80 from rfl, HA.out] at gr
      have hd := gr.done
      obtain ⟨A', m', c', he, hl, ho, hb⟩ := hd
      injection he with he
      subst he
      have O := Lib.hid (And.intro ho.any hb)
      clear gr ho hl hb cI
      go_wp2_with fail
      go_ret
      exact ⟨_, _, _, rfl, O.out.1, O.out.2⟩
end Go.Proofs.Ytbbdmgomcpmhpaa

namespace Go.Proofs.Ytbbdmgomcpmhpaa
open Go Go.RowKit
theorem pad_length (xs : List Int) {k : Nat} (h : k ≤ xs.length) : (padL xs k).length = xs.length := by
  unfold padL
  rw [List.length_append, List.length_take, List.length_replicate]
  omega
theorem pad_at (xs : List Int) {k : Nat} (h : k ≤ xs.length) (j : Nat) : (padL xs k).getD j 0 = if j < k then xs.getD j 0 else 0 := by
  have hl : (xs.take k).length = k := by rw [List.length_take]; omega
  unfold padL
  by_cases hj : j < k
  · rw [if_pos hj, gD_left (by omega)]
    simp only [List.getD_eq_getElem?_getD]
    rw [List.getElem?_take_of_lt hj]
  · rw [if_neg hj, gD_right (by omega)]
    simp only [List.getD_eq_getElem?_getD]
    by_cases h2 : j - (xs.take k).length < xs.length - k
    · rw [List.getElem?_replicate, if_pos h2]
      rfl
    · rw [List.getElem?_replicate, if_neg h2]
      rfl
theorem ext_gD {a b : List Int} (h : a.length = b.length) (he : ∀ i, i < a.length → a.getD i 0 = b.getD i 0) : a = b := by
  apply List.ext_getElem?
  intro i
  by_cases hi : i < a.length
  · have e := he i hi
    rw [List.getD_eq_getElem?_getD, List.getD_eq_getElem?_getD, List.getElem?_eq_getElem hi, List.getElem?_eq_getElem (by omega)] at e
    rw [List.getElem?_eq_getElem hi, List.getElem?_eq_getElem (by omega)]
    simp only [Option.getD_some] at e
    rw [e]
  · rw [List.getElem?_eq_none (by omega), List.getElem?_eq_none (by omega)]
theorem orb_fin : ∀ r : Fin 4, ∀ v : Fin 8, ∀ y : Fin 2, (v.val : Int) < 2 ^ r.val → bits .or .i64 (v.val : Int) (wrap64 ((y.val : Int) * 2 ^ r.val)) = (v.val : Int) + (y.val : Int) * 2 ^ r.val := by decide +kernel
theorem or_bit {r : Nat} (hr : r < 4) {v y : Int} (hv : 0 ≤ v ∧ v < 2 ^ r) (hy : isBit y) : bits .or .i64 v (wrap64 (y * 2 ^ r)) = v + y * 2 ^ r := by
  have h8 : v < 8 := by
    rcases (show r = 0 ∨ r = 1 ∨ r = 2 ∨ r = 3 by omega) with rfl | rfl | rfl | rfl <;> omega
  have hy2 := hy.or
  have h := orb_fin ⟨r, hr⟩ ⟨v.toNat, by omega⟩ ⟨y.toNat, by omega⟩
  have e1 : ((v.toNat : Nat) : Int) = v := by omega
  have e2 : ((y.toNat : Nat) : Int) = y := by omega
  simp only [e1, e2] at h
  exact h hv.2
/-- What a word of which k bits are set gains with the next bit. -/
theorem words_pad {xs : List Int} (hb : allBit xs) (h4 : xs.length % 4 = 0) {k : Nat} (hk : k < xs.length) :
    (0 ≤ (words4 (padL xs k)).getD (k / 4) 0 ∧ (words4 (padL xs k)).getD (k / 4) 0 < 2 ^ (k % 4)) ∧ (words4 (padL xs k)).set (k / 4) ((words4 (padL xs k)).getD (k / 4) 0 + xs.getD k 0 * 2 ^ (k % 4)) = words4 (padL xs (k + 1)) := by
  have l0 := pad_length xs (Nat.le_of_lt hk)
  have l1 := pad_length xs (Nat.succ_le_of_lt hk)
  have w0 := words4_length (padL xs k)
  have w1 := words4_length (padL xs (k + 1))
  have A0 : ∀ i, i < xs.length / 4 → _ := fun i hi => words4_at (padL xs k) i (by rw [l0]; exact hi)
  have A1 : ∀ i, i < xs.length / 4 → _ := fun i hi => words4_at (padL xs (k + 1)) i (by rw [l1]; exact hi)
  simp only [pad_at xs (Nat.le_of_lt hk)] at A0
  simp only [pad_at xs (Nat.succ_le_of_lt hk)] at A1
  have hj : k / 4 < xs.length / 4 := by omega
  obtain ⟨j, hj2⟩ : ∃ j, k / 4 = j := ⟨_, rfl⟩
  have b0 := (hb.at_ (4 * j)).or
  have b1 := (hb.at_ (4 * j + 1)).or
  have b2 := (hb.at_ (4 * j + 2)).or
  have far : ∀ i, i < xs.length / 4 → i ≠ j → (words4 (padL xs k)).getD i 0 = (words4 (padL xs (k + 1))).getD i 0 := fun i hi hne => by
    rw [A0 i hi, A1 i hi]
    have c : ∀ t, t < 4 → (if 4 * i + t < k then xs.getD (4 * i + t) 0 else 0) = if 4 * i + t < k + 1 then xs.getD (4 * i + t) 0 else 0 := fun t ht => by
      by_cases h : 4 * i + t < k
      · rw [if_pos h, if_pos (by omega)]
      · rw [if_neg h, if_neg (by omega)]
    rw [c 1 (by omega), c 2 (by omega), c 3 (by omega), show (if 4 * i < k then xs.getD (4 * i) 0 else 0) = _ from c 0 (by omega)]
    rfl
  have near : (0 ≤ (words4 (padL xs k)).getD j 0 ∧ (words4 (padL xs k)).getD j 0 < 2 ^ (k % 4)) ∧ (words4 (padL xs (k + 1))).getD j 0 = (words4 (padL xs k)).getD j 0 + xs.getD k 0 * 2 ^ (k % 4) := by
    have a0 := A0 j (by omega)
    have a1 := A1 j (by omega)
    rcases (show k = 4 * j ∨ k = 4 * j + 1 ∨ k = 4 * j + 2 ∨ k = 4 * j + 3 by omega) with e | e | e | e
    · rw [if_neg (by omega), if_neg (by omega), if_neg (by omega), if_neg (by omega)] at a0
      rw [if_pos (by omega), if_neg (by omega), if_neg (by omega), if_neg (by omega)] at a1
      rw [a0, a1, show k % 4 = 0 by omega, e]
      omega
    · rw [if_pos (by omega), if_neg (by omega), if_neg (by omega), if_neg (by omega)] at a0
      rw [if_pos (by omega), if_pos (by omega), if_neg (by omega), if_neg (by omega)] at a1
      rw [a0, a1, show k % 4 = 1 by omega, e]
      omega
    · rw [if_pos (by omega), if_pos (by omega), if_neg (by omega), if_neg (by omega)] at a0
      rw [if_pos (by omega), if_pos (by omega), if_pos (by omega), if_neg (by omega)] at a1
      rw [a0, a1, show k % 4 = 2 by omega, e]
      omega
    · rw [if_pos (by omega), if_pos (by omega), if_pos (by omega), if_neg (by omega)] at a0
      rw [if_pos (by omega), if_pos (by omega), if_pos (by omega), if_pos (by omega)] at a1
      rw [a0, a1, show k % 4 = 3 by omega, e]
      omega
  rw [hj2]
  refine ⟨near.1, ext_gD (by rw [List.length_set, w0, w1, l0, l1]) (fun i hi => ?_)⟩
  rw [List.length_set, w0, l0] at hi
  by_cases hij : j = i
  · subst hij
    rw [gSetEq (by rw [w0, l0]; exact hi), near.2]
  · rw [gSetNe hij]
    exact far i hi (fun e => hij e.symm)
theorem words_zero {xs : List Int} : words4 (padL xs 0) = List.replicate (xs.length / 4) 0 := by
  have l0 := pad_length xs (Nat.zero_le _)
  refine ext_gD (by rw [words4_length, l0, List.length_replicate]) (fun i hi => ?_)
  rw [words4_length, l0] at hi
  rw [words4_at _ _ (by rw [l0]; exact hi)]
  simp only [pad_at xs (Nat.zero_le _)]
  rw [if_neg (by omega), if_neg (by omega), if_neg (by omega), if_neg (by omega), List.getD_eq_getElem?_getD, List.getElem?_replicate, if_pos hi]
  rfl
set_option maxRecDepth 100000 in
set_option maxHeartbeats 2000000 in
theorem impl_WordsOf (A : Option Addr) (n c : Nat) (zs : List Int) (w : World) (hz : Ints w A zs) (hl : zs.length = n) (hn : n ≤ 2000000) :
    Calls Try.prog 47 #[.slice A n c] w (Post_A (wordsI zs) w) := by
  have cC := impl_ContainsBit A n c zs (decide (allBit zs)) rfl w hz hl (by omega)
  by_cases h4 : n % 4 = 0
  case neg =>
    rw [show wordsI zs = [] from if_neg (fun e => h4 (by rw [← hl]; exact e.1))]
    have ht : ¬ (n : Int).tmod 4 = 0 := by rw [Int.tmod_eq_emod_of_nonneg (by omega)]; omega
    clear cC hz hl
    go_enter Try.func47, Try.ntmps47
    go_wp2_with fail
    go_ret
    exact ⟨none, 0, 0, rfl, OwnA.nil _ _ _ _, Below.refl _ _⟩
  have ht : (n : Int).tmod 4 = 0 := by rw [Int.tmod_eq_emod_of_nonneg (by omega)]; omega
  by_cases hb : allBit zs
  case neg =>
    rw [show wordsI zs = [] from if_neg (fun e => hb e.2)]
    rw [decide_eq_false hb] at cC
    clear hz hl hb
    go_enter Try.func47, Try.ntmps47
    go_wp2_with fail
    refine cC.mono ?_
    rintro e w1 ⟨rfl, rfl⟩
    clear cC
    go_wp2_with fail
    go_ret
    exact ⟨none, 0, 0, rfl, OwnA.nil _ _ _ _, Below.refl _ _⟩
  rw [show wordsI zs = words4 zs from if_pos ⟨by rw [hl]; exact h4, hb⟩]
  rw [decide_eq_true hb] at cC
  obtain ⟨q, hq⟩ : ∃ q, n / 4 = q := ⟨_, rfl⟩
  have hd : (n : Int).tdiv 4 = (q : Int) := by rw [Int.tdiv_eq_ediv_of_nonneg (by omega)]; omega
  have hw : IntKind.i64.wrap (q : Int) = (q : Int) := wrapB (by omega) (by omega)
  go_enter Try.func47, Try.ntmps47
  go_wp2_with fail
  refine cC.mono ?_
  rintro e w1 ⟨rfl, rfl⟩
  clear cC
  go_wp2_with (first | (refine make_fullI Try.underlying25 infoInt rfl rfl _ _ rfl w.heap.size _ _ _ _ q rfl rfl rfl rfl (by omega) (by unfold maxLen; omega) (Nat.le_refl _) ?_))
  intro w3 hown3 hg3
  have hw4 : words4 (padL zs 0) = List.replicate q 0 := by rw [words_zero, hl, hq]
  have S0 := Lib.hid (show Grow w w3 (.slice (some ⟨w.heap.size, 0, none⟩) q q) q (words4 (padL zs 0)) from ⟨by rw [hw4, show intVals (List.replicate q 0) = List.replicate q (.int .i64 0) by simp [intVals]]; exact hown3, (Below.refl _ _).grown hg3 (Nat.le_refl _) (fun k h => by cases h)⟩)
  clear hown3 hg3 hw4
  have HZ := Lib.hid hz.bound
  have HL := Lib.hid hl
  clear hz hl
  go_wp2_with fail
  go_loopw [20] (fun i wr => ∃ k : Nat, k ≤ n ∧ i = .int .i64 k ∧ Grow w wr (.slice (some ⟨w.heap.size, 0, none⟩) q q) q (words4 (padL zs k))) (fun i _ => n - (intOf i).toNat)
  case atStart => exact ⟨0, by omega, rfl, S0.out⟩
  case round =>
    obtain ⟨k, hk, rfl, gr⟩ := hrel
    clear S0
    by_cases hlt : k < n
    · have k0 : (0 : Int) ≤ k := by omega
      have k1 : (k : Int) < n := by omega
      obtain ⟨b, o, rfl, hbl, cb⟩ := (HZ.out.below gr.low).at_ (j := k) (by rw [HL.out]; exact hlt)
      obtain ⟨y0, y1⟩ := hb.at_ k
      obtain ⟨⟨v0, v1⟩, hset⟩ := words_pad hb (by rw [HL.out]; exact h4) (k := k) (by rw [HL.out]; exact hlt)
      obtain ⟨u0, f0⟩ := gr.at_ (j := k / 4) (by omega)
      have HS0 := Lib.hid hset
      generalize zs.getD k 0 = y at *
      generalize (words4 (padL zs k)).getD (k / 4) 0 = v at *
      have d1 : (k : Int).tdiv 4 = ((k / 4 : Nat) : Int) := by rw [Int.tdiv_eq_ediv_of_nonneg (by omega)]; omega
      have d2 : (k : Int).tmod 4 = ((k % 4 : Nat) : Int) := by rw [Int.tmod_eq_emod_of_nonneg (by omega)]; omega
      have hj4 : k % 4 < 4 := by omega
      have hjq : k / 4 < q := by omega
      have HS := HS0
      clear hset HS0
      generalize k / 4 = j at *
      generalize k % 4 = r at *
      have j0 : (0 : Int) ≤ j := by omega
      have j1 : (j : Int) < q := by omega
      have r0 : (0 : Int) ≤ r := by omega
      have wj : IntKind.i64.wrap (j : Int) = (j : Int) := wrapB (by omega) (by omega)
      have wr4 : IntKind.i64.wrap (r : Int) = (r : Int) := wrapB (by omega) (by omega)
      go_upto_region 7 with (fail)
      go_region
      have hs := (gr.set (Nat.le_refl _) j (v + y * 2 ^ r)).drew
      rw [HS.out] at hs
      have H := Lib.hid hs
      rw [or_bit hj4 ⟨v0, v1⟩ ⟨y0, y1⟩]
      clear gr hs u0 f0 cb
      go_wp2_with fail
      go_roundw
      case rel => exact ⟨k + 1, by omega, by go_num, H.out⟩
      case measure => simp [intOf]; omega
    · obtain rfl : k = n := by omega
      rw [show padL zs k = zs by rw [← HL.out]; exact pad_all zs] at gr
      have hd := gr.done
      obtain ⟨A', m', c', he, hl, ho, hb⟩ := hd
      injection he with he
      injection he with he1 he2 he3
      subst he1 he2 he3
      have O := Lib.hid (And.intro ho.any hb)
      clear gr ho hl hb
      go_wp2_with fail
      go_ret
      exact ⟨_, _, _, rfl, O.out.1, O.out.2⟩
set_option maxRecDepth 100000 in
set_option maxHeartbeats 2000000 in
theorem spec_WordsOf (A : Option Addr) (n c : Nat) (zs : List Int) (w : World) (hz : Ints w A zs) (hl : zs.length = n) (hn : n ≤ 2000000) :
    Calls Try.prog 42 #[.slice A n c] w (Post_A (wordsI zs) w) := by
  have al := below_alloc w (.cells #[] 3)
  have G0 := Grow.empty (w := w) (wr := w) (Below.refl _ _)
  have z1 := hz.al (.cells #[] 3)
  have cC := spec_l13BitsN A n c zs (decide (allBit zs)) rfl _ z1 hl (by omega)
  have hd := G0.done
  obtain ⟨A', m', c', he, hlr, ho, hbr⟩ := hd
  injection he with he
  injection he with he1 he2 he3
  subst he1 he2 he3
  have O := Lib.hid (And.intro ho.any hbr)
  clear ho hlr hbr
  by_cases h4 : n % 4 = 0
  case neg =>
    rw [show wordsI zs = [] from if_neg (fun e => h4 (by rw [← hl]; exact e.1))]
    have ht : ¬ (n : Int).tmod 4 = 0 := by rw [Int.tmod_eq_emod_of_nonneg (by omega)]; omega
    clear cC hz hl z1 al G0
    go_enter Try.func42, Try.ntmps42
    go_wp2_with fail
    go_ret
    exact ⟨_, _, _, rfl, O.out.1, O.out.2⟩
  have ht : (n : Int).tmod 4 = 0 := by rw [Int.tmod_eq_emod_of_nonneg (by omega)]; omega
  by_cases hb : allBit zs
  case neg =>
    rw [show wordsI zs = [] from if_neg (fun e => hb e.2)]
    rw [decide_eq_false hb] at cC
    clear hz hl z1 al G0 hb
    go_enter Try.func42, Try.ntmps42
    go_wp2_with fail
    refine cC.mono ?_
    rintro e w1 ⟨rfl, rfl⟩
    clear cC
    go_wp2_with fail
    go_ret
    exact ⟨_, _, _, rfl, O.out.1, O.out.2⟩
  rw [show wordsI zs = words4 zs from if_pos ⟨by rw [hl]; exact h4, hb⟩]
  rw [decide_eq_true hb] at cC
  have S0 := Lib.hid G0
  have HZ := Lib.hid hz.bound
  have HL := Lib.hid hl
  have WL := Lib.hid (words4_length zs)
  clear hz hl z1 al G0 O
  go_enter Try.func42, Try.ntmps42
  go_wp2_with fail
  refine cC.mono ?_
  rintro e w1 ⟨rfl, rfl⟩
  clear cC
  go_wp2_with fail
  go_loopw [3, 4] (fun s i wr => ∃ k : Nat, k * 4 ≤ n ∧ i = .int .i64 ((k * 4 : Nat) : Int) ∧ Grow w wr s k ((words4 zs).take k)) (fun _ i _ => n - (intOf i).toNat)
  case atStart => exact ⟨0, by omega, rfl, S0.out⟩
  case round =>
    obtain ⟨k, hk, rfl, gr⟩ := hrel
    clear S0
    obtain ⟨q, hq⟩ : ∃ q, k * 4 = q := ⟨_, rfl⟩
    rw [hq]
    by_cases hlt : q < n
    · have zb := HZ.out.below gr.low
      obtain ⟨b, o, rfl, hbl, c0⟩ := zb.at_ (j := q) (by rw [HL.out]; omega)
      obtain ⟨b', o', e1, _, c1⟩ := zb.at_ (j := q + 1) (by rw [HL.out]; omega)
      injection e1 with e1; injection e1 with e11 e12; subst e11 e12
      obtain ⟨b', o', e1, _, c2⟩ := zb.at_ (j := q + 2) (by rw [HL.out]; omega)
      injection e1 with e1; injection e1 with e11 e12; subst e11 e12
      obtain ⟨b', o', e1, _, c3⟩ := zb.at_ (j := q + 3) (by rw [HL.out]; omega)
      injection e1 with e1; injection e1 with e11 e12; subst e11 e12
      have y0 := (hb.at_ q).or
      have y1 := (hb.at_ (q + 1)).or
      have y2 := (hb.at_ (q + 2)).or
      have y3 := (hb.at_ (q + 3)).or
      have HT := Lib.hid (words4_step (xs := zs) (i := k) (by rw [HL.out]; omega))
      rw [show 4 * k = q by omega] at HT
      generalize zs.getD q 0 = x0 at *
      generalize zs.getD (q + 1) 0 = x1 at *
      generalize zs.getD (q + 2) 0 = x2 at *
      generalize zs.getD (q + 3) 0 = x3 at *
      obtain ⟨Au, mu, cu, rfl, rfl⟩ := ownsRow_slice gr.own
      have gs := gr.size
      have k0 : (0 : Int) ≤ q := by omega
      have k1 : (q : Int) < n := by omega
      have p1 : (0 : Int) ≤ (q : Int) + 1 := by omega
      have p2 : (0 : Int) ≤ (q : Int) + 2 := by omega
      have p3 : (0 : Int) ≤ (q : Int) + 3 := by omega
      have q1 : (q : Int) + 1 < n := by omega
      have q2 : (q : Int) + 2 < n := by omega
      have q3 : (q : Int) + 3 < n := by omega
      have t1 : ((q : Int) + 1).toNat = q + 1 := by omega
      have t2 : ((q : Int) + 2).toNat = q + 2 := by omega
      have t3 : ((q : Int) + 3).toNat = q + 3 := by omega
      have v1 : IntKind.i64.wrap ((q : Int) + 1) = (q : Int) + 1 := wrapB (by omega) (by omega)
      have v2 : IntKind.i64.wrap ((q : Int) + 2) = (q : Int) + 2 := wrapB (by omega) (by omega)
      have v3 : IntKind.i64.wrap ((q : Int) + 3) = (q : Int) + 3 := wrapB (by omega) (by omega)
      have u1 : IntKind.i64.wrap (2 * x1) = 2 * x1 := wrapB (by omega) (by omega)
      have u2 : IntKind.i64.wrap (4 * x2) = 4 * x2 := wrapB (by omega) (by omega)
      have u3 : IntKind.i64.wrap (8 * x3) = 8 * x3 := wrapB (by omega) (by omega)
      have s1 : IntKind.i64.wrap (x0 + 2 * x1) = x0 + 2 * x1 := wrapB (by omega) (by omega)
      have s2 : IntKind.i64.wrap (x0 + 2 * x1 + 4 * x2) = x0 + 2 * x1 + 4 * x2 := wrapB (by omega) (by omega)
      have s3 : IntKind.i64.wrap (x0 + 2 * x1 + 4 * x2 + 8 * x3) = x0 + 2 * x1 + 4 * x2 + 8 * x3 := wrapB (by omega) (by omega)
      have bal := below_alloc wr (.cells #[.int .i64 (x0 + 2 * x1 + 4 * x2 + 8 * x3)] 3)
      have bald : Below wr.heap.size wr (wr.alloc (.cells #[.int .i64 (x0 + 2 * x1 + 4 * x2 + 8 * x3)] 3)).drew := bal.drew
      have d0 := cell_on c0 bald
      have d1 := cell_on c1 bald
      have d2 := cell_on c2 bald
      have d3 := cell_on c3 bald
      have gd := (gr.alloc (.cells #[.int .i64 (x0 + 2 * x1 + 4 * x2 + 8 * x3)] 3)).drew
      have hbk : (wr.alloc (.cells #[.int .i64 (x0 + 2 * x1 + 4 * x2 + 8 * x3)] 3)).drew.heap[wr.heap.size]? = some (.cells #[.int .i64 (x0 + 2 * x1 + 4 * x2 + 8 * x3)] 3 (0, 0)) := heap_alloc_new wr _
      have hne : ∀ q', (Value.slice Au k cu).ownBlock = some q' → b ≠ q' := fun q' e e' => by have := (gr.own.lt q' e).1; omega
      generalize (words4 zs).take k = L at *
      clear gr zb
      go_upto_region 7 with (fail)
      go_region_held3 (fun w' => w'.cell? ⟨b, o + q, none⟩ = some (.int .i64 x0) ∧ w'.cell? ⟨b, o + (q + 1), none⟩ = some (.int .i64 x1) ∧ w'.cell? ⟨b, o + (q + 2), none⟩ = some (.int .i64 x2) ∧ w'.cell? ⟨b, o + (q + 3), none⟩ = some (.int .i64 x3)) (first | exact ⟨c0, c1, c2, c3⟩ | exact ⟨d0, d1, d2, d3⟩ | exact ⟨e0, e1, e2, e3⟩) (first
        | (refine app_step (e' := 3) elemInt (by rfl) _ _ (by rfl) w.heap.size (.slice Au k cu) k (intVals L) (by rfl) gd.own wr.heap.size 1 1 _ (0, 0) (by rfl) hbk (by rfl) (oneCell_i64 [_]) (by omega) (by unfold maxLen; omega) (by omega) (by simp; omega) (wr.heap.size + 1) (by simp) ?_; intro g8 e8 w8 ho8 hg8 hat8 hl8; (have bb : w8.heap[b]? = (wr.alloc (.cells #[.int .i64 (x0 + 2 * x1 + 4 * x2 + 8 * x3)] 3)).drew.heap[b]? := hg8.block b (World.block_lt_of_cell? _ _ d0) (fun e => hne b e.symm rfl)); (have e0 := (World.cell?_of_block (a := ⟨b, o + q, none⟩) bb).trans d0); (have e1 := (World.cell?_of_block (a := ⟨b, o + (q + 1), none⟩) bb).trans d1); (have e2 := (World.cell?_of_block (a := ⟨b, o + (q + 2), none⟩) bb).trans d2); (have e3 := (World.cell?_of_block (a := ⟨b, o + (q + 3), none⟩) bb).trans d3)))
      all_goals
        have H := Lib.hid (gd.app (ys := L ++ [x0 + 2 * x1 + 4 * x2 + 8 * x3]) ho8 hg8 (by simp [intVals]))
        clear ho8 hg8 hat8 hl8 bb e0 e1 e2 e3 gd hbk c0 c1 c2 c3 d0 d1 d2 d3
        have w4 : IntKind.i64.wrap ((q : Int) + 4) = (q : Int) + 4 := wrapB (by omega) (by omega)
        go_wp2_with fail
        go_roundw
        case rel => exact ⟨k + 1, by omega, by rw [show (k + 1) * 4 = q + 4 by omega]; go_num, by rw [HT.out]; exact H.out⟩
        case measure => simp [intOf]; omega
    · obtain rfl : q = n := by omega
      rw [show (words4 zs).take k = words4 zs from List.take_of_length_le (by rw [WL.out, HL.out]; omega)] at gr
      have hd := gr.done
      obtain ⟨A', m', c', he, hl, ho, hb⟩ := hd
      injection he with he
      subst he
      have O := Lib.hid (And.intro ho.any hb)
      clear gr ho hl hb
      go_wp2_with fail
      go_ret
      exact ⟨_, _, _, rfl, O.out.1, O.out.2⟩
end Go.Proofs.Ytbbdmgomcpmhpaa

namespace Go.Proofs.Ytbbdmgomcpmhpaa
open Go Go.RowKit
theorem runs_dec (z : List Int) (n : Nat) (os : List Int) (I : List (List Int)) : runsC z n os I ↔ evOk z n os (bitsI I) ∧ os.length % 4 = 0 := by
  unfold runsC bitsI
  by_cases h : insOk I
  · rw [if_pos h]
    exact ⟨fun e => ⟨e.2.2, e.1⟩, fun e => ⟨e.2, h, e.1⟩⟩
  · rw [if_neg h]
    exact ⟨fun e => (h e.2.1).elim, fun e => absurd e.1.2.1 (by simp)⟩
theorem bitsI_len (I : List (List Int)) : (bitsI I).length ≤ 80 := by
  unfold bitsI
  by_cases h : insOk I
  · rw [if_pos h, inB_length]
    exact Nat.le_refl _
  · rw [if_neg h]
    simp
set_option maxRecDepth 100000 in
set_option maxHeartbeats 2000000 in
theorem impl_RunCircuit (A0 : Option Addr) (n0 c0 : Nat) (z0 : List Int) (A1 : Option Addr) (n1 c1 : Nat) (z1 : List Int) (A : Option Addr) (n c : Nat) (I : List (List Int)) (w : World) (h0 : Ints w A0 z0) (l0 : z0.length = n0 * 3) (m0 : n0 ≤ 2000000) (h1 : Ints w A1 z1) (l1 : z1.length = n1) (m1 : n1 ≤ 2000000) (h2 : Rows w.heap.size w A I) (l2 : I.length = n) (hn : n ≤ 1999999) :
    Calls Try.prog 19 #[.agg #[.slice A0 n0 c0, .slice A1 n1 c1], .slice A n c] w (Post_A_bool (runC z0 n0 z1 I) (decide (runsC z0 n0 z1 I)) w) := by
  have al := below_alloc w (.cells #[.slice A0 n0 c0, .slice A1 n1 c1] 27)
  have b0 := heap_alloc_new w (.cells #[.slice A0 n0 c0, .slice A1 n1 c1] 27)
  have i0 := h0.bound.below al
  have i1 := h1.bound.below al
  have r2 := h2.next al
  have sz : w.heap.size ≤ (w.alloc (.cells #[.slice A0 n0 c0, .slice A1 n1 c1] 27)).heap.size := al.size
  go_enter Try.func19, Try.ntmps19
  go_wp2_with fail
  generalize w.alloc (.cells #[.slice A0 n0 c0, .slice A1 n1 c1] 27) = w0 at *
  obtain ⟨x0, -⟩ := blk (i := 0) b0 rfl
  obtain ⟨x1, -⟩ := blk (i := 1) b0 rfl
  go_cut [6, 7] (fun s t wx => ∃ (A5 : Option Addr) (k5 c5 : Nat), s = .slice A5 k5 c5 ∧ t = .bool (decide (evOk z0 n0 z1 (bitsI I))) ∧ k5 = (evC z0 n0 z1 (bitsI I)).length ∧ Ints wx A5 (evC z0 n0 z1 (bitsI I)) ∧ Below w0.heap.size w0 wx)
  case first =>
    have d0 : w0.drew.cell? ⟨w.heap.size, 0, none⟩ = some (.slice A0 n0 c0) := x0
    have d1 : w0.drew.cell? ⟨w.heap.size, 1, none⟩ = some (.slice A1 n1 c1) := x1
    have rd := r2.drew
    have rfl0 : Below w0.heap.size w0 w0.drew := (Below.refl _ _).drew
    have bl := bitsI_len I
    go_region_held3 (fun w' => w'.cell? ⟨w.heap.size, 0, none⟩ = some (.slice A0 n0 c0) ∧ w'.cell? ⟨w.heap.size, 1, none⟩ = some (.slice A1 n1 c1)) (first | exact ⟨x0, x1⟩ | exact ⟨y0, y1⟩ | exact ⟨z0', z1'⟩) (first
      | (go_at_call 46; (with_reducible refine (impl_InputBits A n c I _ rd l2 hn).mono ?_); rintro e w2 ⟨Ab, kb, cb, rfl, ob, hb2⟩; (have y0 := cell_on d0 hb2); (have y1 := cell_on d1 hb2); (have b2 := rfl0.trans (hb2.mono rfl0.size)); (have j0 := (i0.below (b2.mono sz)).ints (Nat.le_trans sz b2.size)); (have j1 := (i1.below (b2.mono sz)).ints (Nat.le_trans sz b2.size)); (have lb := ob.len1); (have ib := ob.ints))
      | (go_at_call 45; (with_reducible refine (impl_EvalCircuit A0 n0 c0 z0 A1 n1 c1 z1 Ab kb cb (bitsI I) _ j0 l0 (by omega) j1 l1 (by omega) ib lb (by omega)).mono ?_); rintro e w3 ⟨A5, k5, c5, rfl, o5, hb3⟩; (have z0' := cell_on y0 hb3); (have z1' := cell_on y1 hb3)))
    all_goals
      have L5 := Lib.hid (And.intro o5.len1 (And.intro o5.ints (b2.trans (hb3.mono b2.size))))
      clear o5 hb3 ib j0 j1 y0 y1 z0' z1' hb2 ob lb
      go_wp2_with fail
      go_meet
      exact ⟨A5, k5, c5, rfl, rfl, L5.out.1.symm, L5.out.2.1, L5.out.2.2⟩
  case rest =>
    obtain ⟨A5, k5, c5, rfl, rfl, e5, i5, b5⟩ := hcut
    have bw := heap_below b0 b5
    obtain ⟨y0, -⟩ := blk (i := 0) bw rfl
    obtain ⟨y1, -⟩ := blk (i := 1) bw rfl
    have HW := Lib.hid (al.trans (b5.mono sz))
    have HS := Lib.hid (Nat.le_trans sz b5.size)
    have cR := runs_dec z0 n0 z1 I
    by_cases hev : evOk z0 n0 z1 (bitsI I)
    case neg =>
      rw [decide_eq_false hev]
      have E := Lib.hid (And.intro (show runC z0 n0 z1 I = [] from if_neg (fun e => hev (cR.1 e).1)) (decide_eq_false (fun e : runsC z0 n0 z1 I => hev (cR.1 e).1)))
      clear cR hev i5 i0 i1 h0 h1 h2 r2 b0 bw
      go_wp2_with fail
      go_ret2
      rw [E.out.1, E.out.2]
      exact ⟨none, 0, 0, rfl, OwnA.nil _ _ _ _, HW.out⟩
    rw [decide_eq_true hev]
    by_cases h4 : n1 % 4 = 0
    case neg =>
      have ht : ¬ (n1 : Int).tmod 4 = 0 := by rw [Int.tmod_eq_emod_of_nonneg (by omega)]; omega
      have E := Lib.hid (And.intro (show runC z0 n0 z1 I = [] from if_neg (fun e => h4 (by rw [← l1]; exact (cR.1 e).2))) (decide_eq_false (fun e : runsC z0 n0 z1 I => h4 (by rw [← l1]; exact (cR.1 e).2))))
      clear cR hev i5 i0 i1 h0 h1 h2 r2 b0 bw
      go_wp2_with fail
      go_ret2
      rw [E.out.1, E.out.2]
      exact ⟨none, 0, 0, rfl, OwnA.nil _ _ _ _, HW.out⟩
    have ht : (n1 : Int).tmod 4 = 0 := by rw [Int.tmod_eq_emod_of_nonneg (by omega)]; omega
    have hr := cR.2 ⟨hev, by rw [l1]; exact h4⟩
    obtain ⟨u0, u1, u2⟩ := runC_yes hr
    have E := Lib.hid (And.intro (show runC z0 n0 z1 I = wordsI (evC z0 n0 z1 (bitsI I)) by rw [u0, ← u2, ← u1]) (decide_eq_true hr))
    have le : (evC z0 n0 z1 (bitsI I)).length = n1 := by rw [evC, if_pos hev, outV_length, l1]
    have e6 : k5 = n1 := by rw [e5, le]
    subst e6
    have cW := impl_WordsOf A5 k5 c5 (evC z0 n0 z1 (bitsI I)) wc i5 le (by omega)
    clear cR hev i5 i0 i1 h0 h1 h2 r2 b0 bw hr u0 u1 u2 le e5
    go_wp2_with fail
    refine cW.mono ?_
    rintro e w6 ⟨A6, k6, c6, rfl, o6, hb6⟩
    have O := Lib.hid (And.intro (o6.wide HS.out (Nat.le_refl _)) (HW.out.trans (hb6.mono HS.out)))
    clear o6 hb6 cW
    go_wp2_with fail
    go_ret2
    rw [E.out.1, E.out.2]
    exact ⟨A6, k6, c6, rfl, O.out.1, O.out.2⟩
set_option maxRecDepth 100000 in
set_option maxHeartbeats 2000000 in
theorem spec_RunCircuit (A0 : Option Addr) (n0 c0 : Nat) (z0 : List Int) (A1 : Option Addr) (n1 c1 : Nat) (z1 : List Int) (A : Option Addr) (n c : Nat) (I : List (List Int)) (w : World) (h0 : Ints w A0 z0) (l0 : z0.length = n0 * 3) (m0 : n0 ≤ 2000000) (h1 : Ints w A1 z1) (l1 : z1.length = n1) (m1 : n1 ≤ 2000000) (h2 : Rows w.heap.size w A I) (l2 : I.length = n) (hn : n ≤ 1999999) :
    Calls Try.prog 16 #[.agg #[.slice A0 n0 c0, .slice A1 n1 c1], .slice A n c] w (Post_A_bool (runC z0 n0 z1 I) (decide (runsC z0 n0 z1 I)) w) := by
  have al := below_alloc w (.cells #[.slice A0 n0 c0, .slice A1 n1 c1] 27)
  have b0 := heap_alloc_new w (.cells #[.slice A0 n0 c0, .slice A1 n1 c1] 27)
  have i0 := h0.bound.below al
  have i1 := h1.bound.below al
  have r2 := h2.next al
  have sz : w.heap.size ≤ (w.alloc (.cells #[.slice A0 n0 c0, .slice A1 n1 c1] 27)).heap.size := al.size
  have cR := runs_dec z0 n0 z1 I
  by_cases h4 : n1 % 4 = 0
  case neg =>
    have ht : ¬ (n1 : Int).tmod 4 = 0 := by rw [Int.tmod_eq_emod_of_nonneg (by omega)]; omega
    have E := Lib.hid (And.intro (show runC z0 n0 z1 I = [] from if_neg (fun e => h4 (by rw [← l1]; exact e.1))) (decide_eq_false (fun e : runsC z0 n0 z1 I => h4 (by rw [← l1]; exact e.1))))
    clear cR h0 h1 h2 r2 b0 i0 i1
    go_enter Try.func16, Try.ntmps16
    go_wp2_with fail
    go_returns
    rw [E.out.1, E.out.2]
    exact ⟨some ⟨(w.alloc (.cells #[.slice A0 n0 c0, .slice A1 n1 c1] 27)).heap.size, 0, none⟩, 0, 0, by simp, OwnA.of_own (World.ownsRow_made (e := 3) (size := 1) (base := w.heap.size) (w.alloc (.cells #[.slice A0 n0 c0, .slice A1 n1 c1] 27)) #[] 0 sz (by unfold maxLen; omega) rfl), low_alloc al _⟩
  have ht : (n1 : Int).tmod 4 = 0 := by rw [Int.tmod_eq_emod_of_nonneg (by omega)]; omega
  by_cases hin : insOk I
  case neg =>
    have cI := spec_InputsOk A n c I false (decide_eq_false hin) (w.alloc (.cells #[.slice A0 n0 c0, .slice A1 n1 c1] 27)) r2 l2 (by omega)
    have E := Lib.hid (And.intro (show runC z0 n0 z1 I = [] from if_neg (fun e => hin e.2.1)) (decide_eq_false (fun e : runsC z0 n0 z1 I => hin e.2.1)))
    clear cR h0 h1 h2 r2 b0 i0 i1 hin
    go_enter Try.func16, Try.ntmps16
    go_wp2_with fail
    refine cI.mono ?_
    rintro e w9 ⟨rfl, rfl⟩
    clear cI
    go_wp2_with fail
    go_returns
    rw [E.out.1, E.out.2]
    exact ⟨some ⟨(w.alloc (.cells #[.slice A0 n0 c0, .slice A1 n1 c1] 27)).heap.size, 0, none⟩, 0, 0, by simp, OwnA.of_own (World.ownsRow_made (e := 3) (size := 1) (base := w.heap.size) (w.alloc (.cells #[.slice A0 n0 c0, .slice A1 n1 c1] 27)) #[] 0 sz (by unfold maxLen; omega) rfl), low_alloc al _⟩
  have cI := spec_InputsOk A n c I true (decide_eq_true hin) (w.alloc (.cells #[.slice A0 n0 c0, .slice A1 n1 c1] 27)) r2 l2 (by omega)
  go_enter Try.func16, Try.ntmps16
  go_wp2_with fail
  generalize w.alloc (.cells #[.slice A0 n0 c0, .slice A1 n1 c1] 27) = w0 at *
  obtain ⟨x0, -⟩ := blk (i := 0) b0 rfl
  obtain ⟨x1, -⟩ := blk (i := 1) b0 rfl
  refine cI.mono ?_
  rintro e w9 ⟨rfl, rfl⟩
  clear cI
  go_wp2_with fail
  go_cut [6, 7] (fun s t wx => ∃ (A5 : Option Addr) (k5 c5 : Nat), s = .slice A5 k5 c5 ∧ t = .bool (decide (evOk z0 n0 z1 (bitsI I))) ∧ k5 = (evC z0 n0 z1 (bitsI I)).length ∧ Ints wx A5 (evC z0 n0 z1 (bitsI I)) ∧ Below w0.heap.size w0 wx)
  case first =>
    have d0 : w0.drew.cell? ⟨w.heap.size, 0, none⟩ = some (.slice A0 n0 c0) := x0
    have d1 : w0.drew.cell? ⟨w.heap.size, 1, none⟩ = some (.slice A1 n1 c1) := x1
    have rd := r2.drew
    have rfl0 : Below w0.heap.size w0 w0.drew := (Below.refl _ _).drew
    have bl := bitsI_len I
    go_region_held3 (fun w' => w'.cell? ⟨w.heap.size, 0, none⟩ = some (.slice A0 n0 c0) ∧ w'.cell? ⟨w.heap.size, 1, none⟩ = some (.slice A1 n1 c1)) (first | exact ⟨x0, x1⟩ | exact ⟨y0, y1⟩ | exact ⟨z0', z1'⟩) (first
      | (go_at_call 41; (with_reducible refine (spec_InputBits A n c I _ rd l2 hn).mono ?_); rintro e w2 ⟨Ab, kb, cb, rfl, ob, hb2⟩; (have y0 := cell_on d0 hb2); (have y1 := cell_on d1 hb2); (have b2 := rfl0.trans (hb2.mono rfl0.size)); (have j0 := (i0.below (b2.mono sz)).ints (Nat.le_trans sz b2.size)); (have j1 := (i1.below (b2.mono sz)).ints (Nat.le_trans sz b2.size)); (have lb := ob.len1); (have ib := ob.ints))
      | (go_at_call 40; (with_reducible refine (spec_EvalCircuit A0 n0 c0 z0 A1 n1 c1 z1 Ab kb cb (bitsI I) _ j0 l0 (by omega) j1 l1 (by omega) ib lb (by omega)).mono ?_); rintro e w3 ⟨A5, k5, c5, rfl, o5, hb3⟩; (have z0' := cell_on y0 hb3); (have z1' := cell_on y1 hb3)))
    all_goals
      have L5 := Lib.hid (And.intro o5.len1 (And.intro o5.ints (b2.trans (hb3.mono b2.size))))
      clear o5 hb3 ib j0 j1 y0 y1 z0' z1' hb2 ob lb
      go_wp2_with fail
      go_meet
      exact ⟨A5, k5, c5, rfl, rfl, L5.out.1.symm, L5.out.2.1, L5.out.2.2⟩
  case rest =>
    obtain ⟨A5, k5, c5, rfl, rfl, e5, i5, b5⟩ := hcut
    have bw := heap_below b0 b5
    obtain ⟨y0, -⟩ := blk (i := 0) bw rfl
    obtain ⟨y1, -⟩ := blk (i := 1) bw rfl
    have HW := Lib.hid (al.trans (b5.mono sz))
    have HS := Lib.hid (Nat.le_trans sz b5.size)
    by_cases hev : evOk z0 n0 z1 (bitsI I)
    case neg =>
      rw [decide_eq_false hev]
      have E := Lib.hid (And.intro (show runC z0 n0 z1 I = [] from if_neg (fun e => hev (cR.1 e).1)) (decide_eq_false (fun e : runsC z0 n0 z1 I => hev (cR.1 e).1)))
      clear cR hev i5 i0 i1 h0 h1 h2 r2 b0 bw
      go_wp2_with fail
      go_returns
      rw [E.out.1, E.out.2]
      exact ⟨_, 0, 0, rfl, OwnA.of_own (World.ownsRow_made (e := 3) (size := 1) (base := w.heap.size) wc #[] 0 HS.out (by unfold maxLen; omega) rfl), low_alloc HW.out _⟩
    rw [decide_eq_true hev]
    have hr := cR.2 ⟨hev, by rw [l1]; exact h4⟩
    obtain ⟨u0, u1, u2⟩ := runC_yes hr
    have E := Lib.hid (And.intro (show runC z0 n0 z1 I = wordsI (evC z0 n0 z1 (bitsI I)) by rw [u0, ← u2, ← u1]) (decide_eq_true hr))
    have le : (evC z0 n0 z1 (bitsI I)).length = n1 := by rw [evC, if_pos hev, outV_length, l1]
    have e6 : k5 = n1 := by rw [e5, le]
    subst e6
    have cW := spec_WordsOf A5 k5 c5 (evC z0 n0 z1 (bitsI I)) wc i5 le (by omega)
    clear cR hev i5 i0 i1 h0 h1 h2 r2 b0 bw hr u0 u1 u2 le e5
    go_wp2_with fail
    refine cW.mono ?_
    rintro e w6 ⟨A6, k6, c6, rfl, o6, hb6⟩
    have O := Lib.hid (And.intro (o6.wide HS.out (Nat.le_refl _)) (HW.out.trans (hb6.mono HS.out)))
    clear o6 hb6 cW
    go_wp2_with fail
    go_returns
    rw [E.out.1, E.out.2]
    exact ⟨A6, k6, c6, rfl, O.out.1, O.out.2⟩
end Go.Proofs.Ytbbdmgomcpmhpaa
