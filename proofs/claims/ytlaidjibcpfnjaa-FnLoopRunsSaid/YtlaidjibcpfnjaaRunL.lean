/- The law FnLoopRuns: the walk. No condition. -/
import Derived.Test.YtlaidjibcpfnjaaProg
import Derived.Test.YtlaidjibcpfnjaaDrawI
import Derived.Test.YtlaidjibcpfnjaaRunP
import Derived.Test.YtlaidjibcpfnjaaSameI
import Derived.Test.YtlaidjibcpfnjaaB8
namespace Go.Proofs.Ytlaidjibcpfnjaa
open Go Go.RowKit
set_option maxHeartbeats 2000000 in
set_option maxRecDepth 100000 in
theorem FnLoopRuns_walk (A : Option Addr) (n c : Nat) (w : World) (hb : Bytes w.heap.size w A n) (hm : n ≤ 9223372036854775807) :
    Calls Try.prog 6 #[.slice A n c] w fun e w' => e = .returned (.bool true) ∧ Below w.heap.size w w' := by
  by_cases hn : 1048576 < n
  · go_enter Try.func6, Try.ntmps6
    go_wp2_with fail
    refine (big_any A n c w true (by simpa using hn) hm).mono ?_
    rintro e w1 ⟨rfl, rfl⟩
    go_wp2_with fail
    go_ret
    exact ⟨rfl, Below.refl _ _⟩
  have hn' : n ≤ 1048576 := by omega
  go_enter Try.func6, Try.ntmps6
  go_wp2_with fail
  refine (big_any A n c w false (by simpa using hn') hm).mono ?_
  rintro e w1 ⟨rfl, rfl⟩
  go_wp2_with fail
  refine (DrawRun_any A n c w hb (by omega)).mono ?_
  intro e w1 h
  obtain ⟨A1, m1, c1, ss, A2, c2, I, rfl, hl, hP, i1, hI, r1, low⟩ := h
  have hp := hP.prog
  have m30 : m1 ≤ 2000000 := by have := hP.len; omega
  have Hl := Lib.hid hl
  have HI := Lib.hid hI.1
  have cU := spec_Unroll A1 m1 c1 ss w1 i1 Hl.out m30
  have cR := fun W => impl_RunProgram A1 m1 c1 ss A2 5 c2 I W
  have cS := fun W => impl_UnrolledSize A1 m1 c1 ss W
  have cO := fun W => impl_OutputCount A1 m1 c1 ss W
  unfold Post_S_bool unrV at cU
  rw [show sizeI ss = ((unrollL ss).length : Int) from if_pos hp] at cS
  by_cases hu : unrI ss
  case neg =>
    have h120 : ¬ (unrollL ss).length ≤ 120 := fun h => hu ⟨hp, h⟩
    rw [if_neg hu, decide_eq_false hu] at cU
    rw [show runI ss I = [] from if_neg (fun e => hu e.1), decide_eq_false (fun e => hu e.1)] at cR
    generalize (unrollL ss).length = z at *
    have z0 : (120 : Int) < z := by omega
    clear hu hp hP cO hl h120 hn hm hb hn' hI
    go_wp2_with fail
    refine cU.mono ?_
    rintro e w2 ⟨B, m, cb, rfl, -, -, hb2⟩
    have i2 := Ints.below i1 hb2
    have r2 := r1.next hb2
    replace low := low.trans (hb2.mono low.size)
    clear hb2 i1 r1 cU
    go_wp2_with fail
    refine (cR w2 i2 Hl.out m30 r2 HI.out (by omega)).mono ?_
    rintro e w3 ⟨C, k, cc, rfl, -, hb3⟩
    have i3 := Ints.below i2 hb3
    replace low := low.trans (hb3.mono low.size)
    clear hb3 i2 r2 cR
    go_wp2_with fail
    refine (cS w3 i3 Hl.out m30).mono ?_
    rintro e w4 ⟨rfl, hb4⟩
    go_wp2_with fail
    go_ret
    exact ⟨rfl, low.trans (hb4.mono low.size)⟩
  have hro : runOk ss I := ⟨hu, hI⟩
  have houts := runI_outs hro
  have hrun : runI ss I = outI (unrollL ss) I := if_pos hro
  have hlen := runI_length ss I
  rw [if_pos hu, decide_eq_true hu] at cU
  rw [decide_eq_true hro] at cR
  rw [show outsI ss = (outs (unrollL ss) : Int) from if_pos hu, ← houts] at cO
  have hz := hu.2
  rw [hrun] at cR cO hlen
  generalize unrollL ss = zs at *
  clear hu hp hP hl hn hm hb hn' hI hro houts hrun cS
  go_wp2_with fail
  refine cU.mono ?_
  rintro e w2 ⟨B, m, cb, rfl, hmz, oB, hb2⟩
  have Hm := Lib.hid hmz
  have hm120 : m ≤ 120 := by omega
  have iB := oB.ints
  have i2 := Ints.below i1 hb2
  have r2 := r1.next hb2
  replace low := low.trans (hb2.mono low.size)
  clear hb2 i1 r1 cU oB hmz hz
  go_wp2_with fail
  refine (cR w2 i2 Hl.out m30 r2 HI.out (by omega)).mono ?_
  rintro e w1' ⟨C, nC, cC, rfl, oC, hb3⟩
  have hC := oC.len1
  have iC := oC.ints.bound
  have i3 := (Ints.below i2 hb3).bound
  have r3 := r2.next hb3
  have hi := Ints.below iB hb3
  replace low := low.trans (hb3.mono low.size)
  have HC := Lib.hid hC
  rw [hC] at hlen cO
  clear hb3 i2 r2 cR oC iB hC
  go_wp2_with fail
  refine (impl_StateNew w1').mono ?_
  rintro e w2' ⟨F0, F1, f0, f1, d0, d1, rfl, oF, hb2⟩
  have k2 := low_alloc hb2 (.cells #[.slice F0 f0 d0, .slice F1 f1 d1] 38)
  have b6 := heap_alloc_new w2' (.cells #[.slice F0 f0 d0, .slice F1 f1 d1] 38)
  have oF2 := oF.alloc (.cells #[.slice F0 f0 d0, .slice F1 f1 d1] 38)
  have t2 := hb2.size
  have Hst := Lib.hid (RunAt.start zs I)
  clear oF hb2
  go_wp2_with fail
  generalize w2'.alloc (.cells #[.slice F0 f0 d0, .slice F1 f1 d1] 38) = w3 at *
  generalize w2'.heap.size = g6 at *
  go_loopw [10] (fun i wr => ∃ (k : Nat) (rs os : List Int) (A0 A1 : Option Addr) (n0 n1 c0 c1 hi : Nat), k ≤ m ∧ i = .int .i64 k ∧ wr.heap[g6]? = some (.cells #[.slice A0 n0 c0, .slice A1 n1 c1] 38 (0, 0)) ∧ OwnState w1'.heap.size hi wr (.slice A0 n0 c0) (.slice A1 n1 c1) n0 n1 rs os ∧ hi ≤ wr.heap.size ∧ Hid (RunAt zs I k rs os) ∧ Below w1'.heap.size w1' wr) (fun i _ => m - (intOf i).toNat)
  case atStart => exact ⟨0, _, _, F0, F1, f0, f1, d0, d1, g6, Nat.zero_le _, rfl, b6, oF2, by have := heap_lt b6; omega, Hst, k2⟩
  case round =>
    obtain ⟨k, rs, os, A0, A1', n0, n1, c0, c1', hi2, hk, rfl, bx, ow, hhi, hD, hb⟩ := hrel
    clear Hst b6 oF2 k2
    have e0 := ow.o0.len1
    have e1 := ow.o1.len1
    have l8 := hD.out.ok.1
    have lo := hD.out.outs
    obtain rfl : n0 = 8 := by omega
    obtain ⟨z0, -⟩ := blk (i := 0) bx rfl
    obtain ⟨z1, -⟩ := blk (i := 1) bx rfl
    by_cases hlt : k < m
    · rcases hs : zs.getD k s0 with ⟨op, d, a, b, c3, mm⟩
      have hlk : k < zs.length := by rw [Hm.out]; exact hlt
      obtain ⟨g, o, rfl, hbl, q0, q1, q2, q3, q4, q5⟩ := cell6 (hi.bound.below hb) hlk hs
      have hN := Lib.hid (hD.out.step hlk hs)
      have k0 : (0 : Int) ≤ k := by omega
      have k1 : (k : Int) < m := by omega
      have j0 : Ints wr.drew A0 rs := ow.o0.ints
      have j1 : Ints wr.drew A1' os := ow.o1.ints
      have gl := heap_lt bx
      have r4 : Rows wr.drew.heap.size wr.drew A2 I := r3.up hb.drew hb.size
      have gs := hb.size
      have hn1 : n1 ≤ k := by omega
      have L0 := Lib.hid e0
      have L1 := Lib.hid e1
      clear hs hi hlk hD ow e0 e1 l8 iC i3 cO
      go_wp2_with fail
      go_region_law (go_simp; go_at_call 22; (with_reducible refine (impl_StepState A0 A1' A2 c0 c1' 8 n1 5 c2 rs os I op d a b c3 mm _ j0 L0.out (by omega) j1 L1.out (by omega) r4 HI.out (by omega)).mono ?_); rintro e w5 ⟨U0, U1, u0, u1, v0, v1, rfl, oU, hb5⟩; (have bx5 := heap_below (w := wr.drew) bx hb5); (obtain ⟨x0, xf0⟩ := blk (i := 0) bx5 rfl); (obtain ⟨x1, xf1⟩ := blk (i := 1) bx5 rfl))
      all_goals
        have hb6 := hb.drew.trans (hb5.mono hb.size)
        have OU := Lib.hid oU
        have BX := Lib.hid (heap_set (i := 1) (heap_set (i := 0) bx5 (.slice U0 u0 v0)) (.slice U1 u1 v1))
        have HB := Lib.hid ((hb6.setCell (p := ⟨g6, 0, none⟩) t2 (.slice U0 u0 v0)).setCell (p := ⟨g6, 1, none⟩) t2 (.slice U1 u1 v1))
        have gl2 : g6 < wr.drew.heap.size := gl
        have gs2 : w1'.heap.size ≤ wr.drew.heap.size := gs
        clear oU bx5 hb6 hb bx hb5 z0 z1 j0 j1 r4 x0 x1 xf0 xf1 q0 q1 q2 q3 q4 q5
        go_wp2_with fail
        go_roundw
        case rel =>
          refine ⟨k + 1, _, _, U0, U1, u0, u1, v0, v1, w5.heap.size, by omega, by go_num, BX.out, (((OU.out.setFar (g := g6) (i := 0) gl2 _).setFar (g := g6) (i := 1) gl2 _).wide gs2 (Nat.le_refl _)), by simp, hN, HB.out⟩
        case measure => simp [intOf]; omega
    · obtain rfl : k = m := by omega
      have hd := hD.out
      rw [← Hm.out] at hd
      have hdone := hd.done
      rw [hdone] at iC
      have hC2 := HC.out
      rw [hdone] at hC2
      obtain rfl : n1 = nC := by omega
      have HL := Lib.hid hC2
      have jC := (iC.below hb).ints hb.size
      have jO := ow.o1.ints
      have j3 := (i3.below hb).ints hb.size
      have cE := sameInts_same n1 cC c1' C A1' os wr jC jO HL.out (by omega)
      clear hD hi ow hd bx hdone hC2 iC i3 jC jO HC
      go_wp2_with fail
      refine cE.mono ?_
      rintro e w6 ⟨rfl, hb6⟩
      have j6 := Ints.below j3 hb6
      replace low := (low.trans (hb.mono low.size)).trans (hb6.mono (Nat.le_trans low.size hb.size))
      clear hb hb6 j3 cE z0 z1
      go_wp2_with fail
      refine (cO w6 j6 Hl.out m30).mono ?_
      rintro e w7 ⟨rfl, hb7⟩
      go_wp2_with fail
      go_ret
      exact ⟨by simp, low.trans (hb7.mono low.size)⟩
end Go.Proofs.Ytlaidjibcpfnjaa
