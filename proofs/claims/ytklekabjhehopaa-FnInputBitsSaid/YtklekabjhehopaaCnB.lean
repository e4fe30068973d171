/- The law FnInputBits: the walk. No condition. -/
import Derived.Test.YtklekabjhehopaaProg
import Derived.Test.YtklekabjhehopaaCQ
import Derived.Test.YtklekabjhehopaaDI
namespace Go.Proofs.Ytklekabjhehopaa
open Go Go.RowKit
set_option maxHeartbeats 2000000 in
set_option maxRecDepth 100000 in
theorem FnInputBits_walk (A : Option Addr) (n c : Nat) (w : World) (hb : Bytes w.heap.size w A n) (hm : n ≤ 9223372036854775807) :
    Calls Try.prog 4 #[.slice A n c] w fun e w' => e = .returned (.bool true) ∧ Below w.heap.size w w' := by
  by_cases hn : 1048576 < n
  · go_enter Try.func4, Try.ntmps4
    go_wp2_with fail
    refine (big_any A n c w true (by simpa using hn) hm).mono ?_
    rintro e w1 ⟨rfl, rfl⟩
    go_wp2_with fail
    go_ret
    exact ⟨rfl, Below.refl _ _⟩
  have hn' : n ≤ 1048576 := by omega
  go_enter Try.func4, Try.ntmps4
  go_wp2_with fail
  refine (big_any A n c w false (by simpa using hn') hm).mono ?_
  rintro e w1 ⟨rfl, rfl⟩
  go_wp2_with fail
  refine (DrawRun_any A n c w hb (by omega)).mono ?_
  intro e w1 h
  obtain ⟨A1, m1, c1, ss, A2, c2, I, rfl, hl, hP, i1, hI, r1, low⟩ := h
  have cI := impl_InputBits A2 5 c2 I w1 r1 hI.1 (by omega)
  rw [show bitsI I = inB I from if_pos hI] at cI
  clear hb hm hl hP i1 hn hn'
  go_wp2_with fail
  refine cI.mono ?_
  rintro e w2 ⟨B, k, cb, rfl, oB, hb2⟩
  have e80 : k = 80 := by rw [← oB.len1, inB_length]
  subst e80
  have cW := impl_WordsOf B 80 cb (inB I) w2 oB.ints (inB_length I) (by omega)
  rw [words_in hI] at cW
  have r2 := r1.next hb2
  have low2 := low.trans (hb2.mono low.size)
  clear cI oB hb2 r1
  go_wp2_with fail
  refine cW.mono ?_
  rintro e w3 ⟨D, k, cd, rfl, oD, hb3⟩
  have e20 : k = 20 := by rw [← oD.len1, allI_length]
  subst e20
  have iD := oD.ints
  have r3 := r2.next hb3
  have low3 := low2.trans (hb3.mono low2.size)
  clear cW oD hb3 r2
  go_wp2_with fail
  go_loopw [7] (fun i wr => ∃ p : Nat, p ≤ 5 ∧ i = .int .i64 p ∧ Below w3.heap.size w3 wr) (fun i _ => 5 - (intOf i).toNat)
  case atStart => exact ⟨0, by omega, rfl, Below.refl _ _⟩
  case round =>
    obtain ⟨p, hp, rfl, hb⟩ := hrel
    by_cases hlt : p < 5
    · have p0 : (0 : Int) ≤ p := by omega
      have p1 : (p : Int) < 5 := by omega
      have S0 := Lib.hid hb
      clear hb
      go_wp2_with fail
      go_loopw [8] (fun i wr => ∃ m : Nat, m ≤ 4 ∧ i = .int .i64 m ∧ Below w3.heap.size w3 wr) (fun i _ => 4 - (intOf i).toNat)
      case atStart => exact ⟨0, by omega, rfl, S0.out⟩
      case round =>
        obtain ⟨m, hm, rfl, hb⟩ := hrel
        clear S0
        by_cases hlm : m < 4
        · have m0 : (0 : Int) ≤ m := by omega
          have m1' : (m : Int) < 4 := by omega
          obtain ⟨hr4, _⟩ := hI.row hlt
          obtain ⟨b, o, Aj, cj, rfl, _, cr, ir⟩ := (r3.below hb).at_ (j := p) (by rw [hI.1]; exact hlt)
          rw [hr4] at cr
          obtain ⟨bj, oj, rfl, _, cv⟩ := ir.at_ (j := m) (by omega)
          have hQ := allI_at I hlt hlm
          obtain ⟨q, hq⟩ : ∃ q, p * 4 + m = q := ⟨_, rfl⟩
          rw [hq] at hQ
          obtain ⟨bd, od, rfl, _, cd2⟩ := (iD.bound.below hb).at_ (j := q) (by rw [allI_length]; omega)
          rw [hQ] at cd2
          generalize (I.getD p []).getD m 0 = y at *
          have e1 : IntKind.i64.wrap ((p : Int) * 4) = (p : Int) * 4 := wrapB (by omega) (by omega)
          have e2 : IntKind.i64.wrap ((p : Int) * 4 + (m : Int)) = (q : Int) := by rw [show (p : Int) * 4 + (m : Int) = (q : Int) by omega]; exact wrapB (by omega) (by omega)
          have q0 : (0 : Int) ≤ q := by omega
          have q1 : (q : Int) < 20 := by omega
          have H := Lib.hid hb
          clear hb ir iD
          go_wp2_with fail
          go_quiet (fail)
          go_wp2_with fail
          go_roundw
          case rel => exact ⟨m + 1, by omega, by go_num, below_drewN H.out _⟩
          case measure => simp [intOf]; omega
        · obtain rfl : m = 4 := by omega
          have H := Lib.hid hb
          clear hb
          rw [show ((4 : Nat) : Int) = 4 from rfl]
          go_wp2_with fail
          go_roundw
          case rel => exact ⟨p + 1, by omega, by go_num, H.out⟩
          case measure => simp [intOf]; omega
    · obtain rfl : p = 5 := by omega
      have L := Lib.hid (low3.trans (hb.mono low3.size))
      clear hb
      go_wp2_with fail
      go_ret
      exact ⟨rfl, L.out⟩
end Go.Proofs.Ytklekabjhehopaa
