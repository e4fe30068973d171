/- RunProgram: the program's and the model's. No condition. -/
import Derived.Test.YtjfmcdfgccdmpaaGreatProg
import Derived.Test.YtjfmcdfgccdmpaaGreatRunI
import Derived.Test.YtjfmcdfgccdmpaaGreatRunS
import Derived.Test.YtjfmcdfgccdmpaaGreatR2
import Derived.Test.YtjfmcdfgccdmpaaGreatB1
import Derived.Test.YtjfmcdfgccdmpaaGreatB8
import Derived.Test.YtjfmcdfgccdmpaaGreatB7
namespace Go.Proofs.YtjfmcdfgccdmpaaGreat
open Go Go.RowKit
/-- Where the run over the statements stands: the state so far. -/
structure RunAt (zs : List St) (I : List (List Int)) (k : Nat) (rs os : List Int) : Prop where
  rest : runAll zs (List.replicate 8 0) [] I = runAll (zs.drop k) rs os I
  ok : stOk rs os
  outs : os.length ≤ k
theorem RunAt.start (zs : List St) (I : List (List Int)) : RunAt zs I 0 (List.replicate 8 0) [] := ⟨by rw [List.drop_zero], stOk.start, Nat.le_refl _⟩
theorem RunAt.step {zs : List St} {I : List (List Int)} {k : Nat} {rs os : List Int} (h : RunAt zs I k rs os) (hk : k < zs.length) {op d a b c n : Int} (e : zs.getD k s0 = ⟨op, d, a, b, c, n⟩) : RunAt zs I (k + 1) (stepR rs os I op d a b c n) (stepO rs os I op d a b c n) :=
  ⟨by rw [h.rest, runAll_step hk e], step_ok h.ok, by have := stepO_length (rs := rs) (os := os) (I := I) (op := op) (d := d) (a := a) (b := b) (c := c) (n := n); have := h.outs; omega⟩
theorem RunAt.done {zs : List St} {I : List (List Int)} {rs os : List Int} (h : RunAt zs I zs.length rs os) : outI zs I = os := by
  unfold outI
  rw [h.rest, runAll_end]
set_option maxRecDepth 100000 in
set_option maxHeartbeats 1000000 in
theorem spec_RunProgram (A : Option Addr) (n cp : Nat) (ss : List St) (A2 : Option Addr) (n2 cp2 : Nat) (I : List (List Int)) (w : World) (hr : Ints w A (flat ss)) (hl : ss.length = n) (hn : n ≤ 2000000) (h2 : Rows w.heap.size w A2 I) (l2 : I.length = n2) (m2 : n2 ≤ 1999999) :
    Calls Tryz.prog 7 #[.slice A n cp, .slice A2 n2 cp2] w (Post_A_bool (runI ss I) (decide (runOk ss I)) w) := by
  have c1 := spec_Unroll A n cp ss w hr hl hn
  unfold Post_S_bool at c1
  unfold unrV at c1
  by_cases hu : unrI ss
  case neg =>
    rw [if_neg hu, decide_eq_false hu] at c1
    rw [show runI ss I = [] from if_neg (fun e => hu e.1), decide_eq_false (fun e => hu e.1)]
    clear hu hr h2 l2
    go_enter Tryz.func7, Tryz.ntmps7
    go_wp2_with fail
    refine c1.mono ?_
    rintro e w1 ⟨B, m, c, rfl, -, -, hb⟩
    go_wp2_with fail
    go_returns
    exact ⟨_, 0, 0, rfl, OwnA.of_own (World.ownsRow_made (e := 3) (size := 1) (base := w.heap.size) w1 #[] 0 hb.size (by unfold maxLen; omega) rfl), low_alloc hb _⟩
  rw [if_pos hu, decide_eq_true hu] at c1
  by_cases hin : insOk I
  case neg =>
    rw [show runI ss I = [] from if_neg (fun e => hin e.2), decide_eq_false (fun e => hin e.2)]
    go_enter Tryz.func7, Tryz.ntmps7
    go_wp2_with fail
    refine c1.mono ?_
    rintro e w1 ⟨B, m, c, rfl, -, -, hb⟩
    have cI := spec_InputsOk A2 n2 cp2 I false (decide_eq_false hin) w1 (h2.next hb) l2 (by omega)
    clear c1 hu hin hr h2 l2 hl
    go_wp2_with fail
    refine cI.mono ?_
    rintro e w2 ⟨rfl, rfl⟩
    go_wp2_with fail
    go_returns
    exact ⟨_, 0, 0, rfl, OwnA.of_own (World.ownsRow_made (e := 3) (size := 1) (base := w.heap.size) w1 #[] 0 hb.size (by unfold maxLen; omega) rfl), low_alloc hb _⟩
  rw [show runI ss I = outI (unrollL ss) I from if_pos ⟨hu, hin⟩, decide_eq_true (show runOk ss I from ⟨hu, hin⟩)]
  have hz := hu.2
  have cI := fun W => spec_InputsOk A2 n2 cp2 I true (decide_eq_true hin) W
  have L2 := Lib.hid l2
  generalize unrollL ss = zs at *
  clear hu hr hin l2
  go_enter Tryz.func7, Tryz.ntmps7
  go_wp2_with fail
  refine c1.mono ?_
  rintro e w1 ⟨B, m, c, rfl, hm, hown, hb1⟩
  have hi := hown.ints
  have Hm := Lib.hid hm
  have hm120 : m ≤ 120 := by omega
  have r1 := h2.next hb1
  clear c1 hown hm hz h2
  go_wp2_with fail
  refine (cI w1 r1 L2.out (by omega)).mono ?_
  rintro e w9 ⟨rfl, rfl⟩
  clear cI
  go_wp2_with fail
  refine (spec_StateNew w1).mono ?_
  rintro e w2 ⟨F0, F1, f0, f1, d0, d1, rfl, oF, hb2⟩
  have k2 := low_alloc hb2 (.cells #[.slice F0 f0 d0, .slice F1 f1 d1] 60)
  have b6 := heap_alloc_new w2 (.cells #[.slice F0 f0 d0, .slice F1 f1 d1] 60)
  have oF2 := oF.alloc (.cells #[.slice F0 f0 d0, .slice F1 f1 d1] 60)
  have t2 := hb2.size
  have Hst := Lib.hid (RunAt.start zs I)
  clear oF hb2
  go_wp2_with fail
  generalize w2.alloc (.cells #[.slice F0 f0 d0, .slice F1 f1 d1] 60) = w3 at *
  generalize w2.heap.size = g6 at *
  go_loopw [9] (fun i wr => ∃ (k : Nat) (rs os : List Int) (A0 A1 : Option Addr) (n0 n1 c0 c1 hi : Nat), k ≤ m ∧ i = .int .i64 k ∧ wr.heap[g6]? = some (.cells #[.slice A0 n0 c0, .slice A1 n1 c1] 60 (0, 0)) ∧ OwnState w1.heap.size hi wr (.slice A0 n0 c0) (.slice A1 n1 c1) n0 n1 rs os ∧ hi ≤ wr.heap.size ∧ Hid (RunAt zs I k rs os) ∧ Below w1.heap.size w1 wr) (fun i _ => m - (intOf i).toNat)
  case atStart => exact ⟨0, _, _, F0, F1, f0, f1, d0, d1, g6, Nat.zero_le _, rfl, b6, oF2, by have := heap_lt b6; omega, Hst, k2⟩
  case round =>
    obtain ⟨k, rs, os, A0, A1, n0, n1, c0, c1, hi2, hk, rfl, bx, ow, hhi, hD, hb⟩ := hrel
    clear Hst b6 oF2 k2
    have e0 := ow.o0.len1
    have e1 := ow.o1.len1
    have l8 := hD.out.ok.1
    have lo := hD.out.outs
    obtain rfl : n0 = 8 := by omega
    obtain ⟨z0, -⟩ := blk (i := 0) bx rfl
    obtain ⟨z1, -⟩ := blk (i := 1) bx rfl
    by_cases hlt : k < m
    · rcases hs : zs.getD k s0 with ⟨op, d, a, b, c2, mm⟩
      have hlk : k < zs.length := by rw [Hm.out]; exact hlt
      obtain ⟨g, o, rfl, hbl, q0, q1, q2, q3, q4, q5⟩ := cell6 (hi.bound.below hb) hlk hs
      have hN := Lib.hid (hD.out.step hlk hs)
      have k0 : (0 : Int) ≤ k := by omega
      have k1 : (k : Int) < m := by omega
      have j0 : Ints wr.drew A0 rs := ow.o0.ints
      have j1 : Ints wr.drew A1 os := ow.o1.ints
      have gl := heap_lt bx
      have r2 : Rows wr.drew.heap.size wr.drew A2 I := r1.up hb.drew hb.size
      have gs := hb.size
      have hn1 : n1 ≤ k := by omega
      have L0 := Lib.hid e0
      have L1 := Lib.hid e1
      clear hs hi hlk hD ow e0 e1 l8
      go_wp2_with fail
      go_region_law (go_simp; go_at_call 23; (with_reducible refine (spec_StepState A0 A1 A2 c0 c1 8 n1 n2 cp2 rs os I op d a b c2 mm _ j0 L0.out (by omega) j1 L1.out (by omega) r2 L2.out m2).mono ?_); rintro e w5 ⟨U0, U1, u0, u1, v0, v1, rfl, oU, hb5⟩; (have bx5 := heap_below (w := wr.drew) bx hb5); (obtain ⟨x0, xf0⟩ := blk (i := 0) bx5 rfl); (obtain ⟨x1, xf1⟩ := blk (i := 1) bx5 rfl))
      all_goals
        have hb6 := hb.drew.trans (hb5.mono hb.size)
        have OU := Lib.hid oU
        have BX := Lib.hid (heap_set (i := 1) (heap_set (i := 0) bx5 (.slice U0 u0 v0)) (.slice U1 u1 v1))
        have HB := Lib.hid ((hb6.setCell (p := ⟨g6, 0, none⟩) t2 (.slice U0 u0 v0)).setCell (p := ⟨g6, 1, none⟩) t2 (.slice U1 u1 v1))
        have gl2 : g6 < wr.drew.heap.size := gl
        have gs2 : w1.heap.size ≤ wr.drew.heap.size := gs
        clear oU bx5 hb6 hb bx hb5 z0 z1 j0 j1 r2 x0 x1 xf0 xf1 q0 q1 q2 q3 q4 q5
        go_wp2_with fail
        go_roundw
        case rel =>
          refine ⟨k + 1, _, _, U0, U1, u0, u1, v0, v1, w5.heap.size, by omega, by go_num, BX.out, (((OU.out.setFar (g := g6) (i := 0) gl2 _).setFar (g := g6) (i := 1) gl2 _).wide gs2 (Nat.le_refl _)), by simp, hN, HB.out⟩
        case measure => simp [intOf]; omega
    · obtain rfl : k = m := by omega
      have hd := hD.out
      rw [← Hm.out] at hd
      have Hd := Lib.hid hd.done
      have O1 := Lib.hid ow.o1
      clear hD hi ow hd bx
      go_wp2_with fail
      go_ret2
      refine ⟨A1, n1, c1, rfl, ?_, hb1.trans (hb.mono hb1.size)⟩
      rw [Hd.out]
      exact O1.out.wide hb1.size hhi
end Go.Proofs.YtjfmcdfgccdmpaaGreat
