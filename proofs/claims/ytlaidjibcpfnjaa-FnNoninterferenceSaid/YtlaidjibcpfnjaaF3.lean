/- FlowStep: the program's and the model's, at every argument. No condition. And what goes with it. -/
import Derived.Test.YtlaidjibcpfnjaaProg
import Derived.Test.YtlaidjibcpfnjaaF1
import Derived.Test.YtlaidjibcpfnjaaF2
import Derived.Test.YtlaidjibcpfnjaaB1
import Derived.Test.YtlaidjibcpfnjaaB8
import Derived.Test.YtlaidjibcpfnjaaB7
import Derived.Test.YtlaidjibcpfnjaaB2
namespace Go.Proofs.Ytlaidjibcpfnjaa
open Go Go.RowKit
theorem flow_idle {rs : List Int} (os : List Int) {op d a b c n : Int} (h : idle rs op d a b c n) : flowR rs op d a b c n = rs ∧ flowO rs os op d a b c n = os := by
  unfold idle at h
  unfold flowR flowO
  refine ⟨if_neg (fun e => ?_), if_neg (fun e => ?_)⟩
  · rcases h with h | h | h
    · exact h e.1
    · exact h e.2.1
    · have := e.2.2; omega
  · rcases h with h | h | h
    · exact h e.1
    · exact h e.2.1
    · have := e.2.2; omega
theorem impl_FlowStep (A0 : Option Addr) (n0 c0 : Nat) (rs : List Int) (A1 : Option Addr) (n1 c1 : Nat) (os : List Int) (op d a b c n : Int) (w : World) (h0 : Ints w A0 rs) (l0 : rs.length = n0) (m0 : n0 ≤ 1999999) (h1 : Ints w A1 os) (l1 : os.length = n1) (m1 : n1 ≤ 1999999) :
    Calls Try.prog 58 #[.agg #[.slice A0 n0 c0, .slice A1 n1 c1], .agg #[.int .i64 op, .int .i64 d, .int .i64 a, .int .i64 b, .int .i64 c, .int .i64 n]] w (Post_Flow (flowR rs op d a b c n) (flowO rs os op d a b c n) w) := by
  by_cases hok : okI op d a b c n
  · by_cases h8 : rs.length = 8
    · obtain rfl : n0 = 8 := by omega
      exact impl_FlowStep_yes A0 A1 c0 c1 n1 rs os op d a b c n w h0 h8 h1 l1 m1 hok
    · obtain ⟨e, e'⟩ := flow_idle os (show idle rs op d a b c n from .inr (.inl h8))
      rw [e, e']
      exact impl_FlowStep_len A0 A1 c0 c1 n0 n1 rs os op d a b c n w h0 l0 (by omega) h1 l1 (by omega) hok h8
  · obtain ⟨e, e'⟩ := flow_idle os (show idle rs op d a b c n from .inl hok)
    rw [e, e']
    exact impl_FlowStep_no A0 A1 c0 c1 n0 n1 rs os op d a b c n w h0 l0 (by omega) h1 l1 (by omega) hok
end Go.Proofs.Ytlaidjibcpfnjaa

namespace Go.Proofs.Ytlaidjibcpfnjaa
open Go Go.RowKit
/-- Where the walk over the statements stands: the sets so far. -/
structure DepAt (zs : List St) (k : Nat) (rs os : List Int) : Prop where
  rest : flowAll zs (List.replicate 8 0) [] = flowAll (zs.drop k) rs os
  small : five rs
  eight : rs.length = 8
  outs : os.length ≤ k
theorem DepAt.start (zs : List St) : DepAt zs 0 (List.replicate 8 0) [] := ⟨by rw [List.drop_zero], five.zeros 8, by simp, Nat.le_refl _⟩
theorem DepAt.step {zs : List St} {k : Nat} {rs os : List Int} (h : DepAt zs k rs os) (hk : k < zs.length) {op d a b c n : Int} (e : zs.getD k s0 = ⟨op, d, a, b, c, n⟩) : DepAt zs (k + 1) (flowR rs op d a b c n) (flowO rs os op d a b c n) :=
  ⟨by rw [h.rest, flowAll_step hk e], flowR_five h.small _ _ _ _ _ _, by rw [flowR_length, h.eight], by have := flowO_length rs os op d a b c n; have := h.outs; omega⟩
theorem DepAt.done {zs : List St} {rs os : List Int} (h : DepAt zs zs.length rs os) : deps zs = os := by
  unfold deps
  rw [h.rest, flowAll_end]
set_option maxRecDepth 100000 in
set_option maxHeartbeats 1000000 in
theorem impl_OutputDeps (A : Option Addr) (n cp : Nat) (ss : List St) (w : World) (hr : Ints w A (flat ss)) (hl : ss.length = n) (hn : n ≤ 2000000) :
    Calls Try.prog 16 #[.slice A n cp] w (Post_A_bool (depsI ss) (decide (unrI ss)) w) := by
  have c1 := impl_Unroll A n cp ss w hr hl hn
  unfold Post_S_bool at c1
  unfold depsI
  unfold unrV at c1
  by_cases hu : unrI ss
  case neg =>
    rw [if_neg hu, decide_eq_false hu] at c1
    rw [if_neg hu, decide_eq_false hu]
    clear hu hr
    go_enter Try.func16, Try.ntmps16
    go_wp2_with fail
    refine c1.mono ?_
    rintro e w1 ⟨B, m, c, rfl, -, -, hb⟩
    go_wp2_with fail
    go_ret2
    exact ⟨none, 0, 0, rfl, OwnA.nil _ _ _ _, hb⟩
  rw [if_pos hu, decide_eq_true hu] at c1
  rw [if_pos hu, decide_eq_true hu]
  have hz := hu.2
  generalize unrollL ss = zs at *
  clear hu hr
  go_enter Try.func16, Try.ntmps16
  go_wp2_with fail
  refine c1.mono ?_
  rintro e w1 ⟨B, m, c, rfl, hm, hown, hb1⟩
  have hi := hown.ints
  have Hm := Lib.hid hm
  have hm120 : m ≤ 120 := by omega
  clear c1 hown hm hz
  go_wp2_with fail
  refine (impl_FlowNew w1).mono ?_
  rintro e w2 ⟨F0, F1, f0, f1, d0, d1, rfl, oF, hb2⟩
  have k2 := low_alloc hb2 (.cells #[.slice F0 f0 d0, .slice F1 f1 d1] 75)
  have b6 := heap_alloc_new w2 (.cells #[.slice F0 f0 d0, .slice F1 f1 d1] 75)
  have oF2 := oF.alloc (.cells #[.slice F0 f0 d0, .slice F1 f1 d1] 75)
  have t2 := hb2.size
  have Hst := Lib.hid (DepAt.start zs)
  clear oF hb2
  go_wp2_with fail
  generalize w2.alloc (.cells #[.slice F0 f0 d0, .slice F1 f1 d1] 75) = w3 at *
  generalize w2.heap.size = g6 at *
  go_loopw [19] (fun i wr => ∃ (k : Nat) (rs os : List Int) (A0 A1 : Option Addr) (n0 n1 c0 c1 hi : Nat), k ≤ m ∧ i = .int .i64 k ∧ wr.heap[g6]? = some (.cells #[.slice A0 n0 c0, .slice A1 n1 c1] 75 (0, 0)) ∧ OwnFlow w1.heap.size hi wr (.slice A0 n0 c0) (.slice A1 n1 c1) n0 n1 rs os ∧ hi ≤ wr.heap.size ∧ Hid (DepAt zs k rs os) ∧ Below w1.heap.size w1 wr) (fun i _ => m - (intOf i).toNat)
  case atStart => exact ⟨0, _, _, F0, F1, f0, f1, d0, d1, g6, Nat.zero_le _, rfl, b6, oF2, by have := heap_lt b6; omega, Hst, k2⟩
  case round =>
    obtain ⟨k, rs, os, A0, A1, n0, n1, c0, c1, hi2, hk, rfl, bx, ow, hhi, hD, hb⟩ := hrel
    clear Hst b6 oF2 k2
    have e0 := ow.o0.len1
    have e1 := ow.o1.len1
    have l8 := hD.out.eight
    have lo := hD.out.outs
    obtain rfl : n0 = 8 := by omega
    obtain ⟨z0, -⟩ := blk (i := 0) bx rfl
    obtain ⟨z1, -⟩ := blk (i := 1) bx rfl
    by_cases hlt : k < m
    · rcases hs : zs.getD k s0 with ⟨op, d, a, b, c2, mm⟩
      have hlk : k < zs.length := by rw [Hm.out]; exact hlt
      obtain ⟨g, o, rfl, hbl, q0, q1, q2, q3, q4, q5⟩ := cell6 (hi.bound.below hb) hlk hs
      have hN := Lib.hid (hD.out.step hlk hs)
      have k0 : (0 : Int) ≤ k := by omega
      have k1 : (k : Int) < m := by omega
      have hal := below_alloc wr (.cells #[.int .i64 op, .int .i64 d, .int .i64 a, .int .i64 b, .int .i64 c2, .int .i64 mm] 42)
      have j0 := (ow.below hal).o0.ints
      have j1 := (ow.below hal).o1.ints
      have bx2 := heap_below bx hal
      have hb2 := hb.trans (hal.mono hb.size)
      obtain ⟨y0, -⟩ := blk (i := 0) bx2 rfl
      obtain ⟨y1, -⟩ := blk (i := 1) bx2 rfl
      have hn1 : n1 ≤ k := by omega
      have L0 := Lib.hid e0
      have L1 := Lib.hid e1
      have gl := heap_lt bx
      have gs := hb.size
      clear hs hi hlk hD ow hb z0 z1 e0 e1 l8 hal bx
      go_wp2_with fail
      refine (impl_FlowStep A0 8 c0 rs A1 n1 c1 os op d a b c2 mm _ j0 L0.out (by omega) j1 L1.out (by omega)).mono ?_
      rintro e w5 ⟨U0, U1, u0, u1, v0, v1, rfl, oU, hb5⟩
      have bx5 := heap_below bx2 hb5
      have hb6 := hb2.trans (hb5.mono hb2.size)
      obtain ⟨x0, xf0⟩ := blk (i := 0) bx5 rfl
      obtain ⟨x1, xf1⟩ := blk (i := 1) bx5 rfl
      have OU := Lib.hid oU
      have BX := Lib.hid (heap_set (i := 1) (heap_set (i := 0) bx5 (.slice U0 u0 v0)) (.slice U1 u1 v1))
      have HB := Lib.hid ((hb6.setCell (p := ⟨g6, 0, none⟩) t2 (.slice U0 u0 v0)).setCell (p := ⟨g6, 1, none⟩) t2 (.slice U1 u1 v1))
      clear oU bx2 bx5 hb2 hb5 hb6 y0 y1 j0 j1
      go_wp2_with fail
      go_roundw
      case rel =>
        refine ⟨k + 1, _, _, U0, U1, u0, u1, v0, v1, w5.heap.size, by omega, by go_num, BX.out, (((OU.out.setFar (g := g6) (i := 0) (by simp; omega) _).setFar (g := g6) (i := 1) (by simp; omega) _).wide (by simp; omega) (Nat.le_refl _)), by simp, hN, HB.out⟩
      case measure => simp [intOf]; omega
    · obtain rfl : k = m := by omega
      have hd := hD.out
      rw [← Hm.out] at hd
      have Hd := Lib.hid hd.done
      have O1 := Lib.hid ow.o1
      clear hD hi ow hd bx
      go_wp2_with fail
      go_ret2
      refine ⟨A1, n1, c1, rfl, ?_, hb1.trans (hb.mono hb1.size)⟩
      rw [Hd.out]
      exact O1.out.wide hb1.size hhi
end Go.Proofs.Ytlaidjibcpfnjaa

namespace Go.Proofs.Ytlaidjibcpfnjaa
open Go Go.RowKit
theorem within_bad {ds al : List Int} {k : Nat} (hk : k < ds.length) (h : al.getD k 0 < 0 ∨ ¬ bits .andNot .i64 (ds.getD k 0) (al.getD k 0) = 0) : ¬ within ds al := fun e => by
  have := e.2 k hk
  rcases h with h | h
  · omega
  · exact h this.2
set_option maxRecDepth 100000 in
set_option maxHeartbeats 1000000 in
theorem impl_FlowOk (A : Option Addr) (n cp : Nat) (ss : List St) (B : Option Addr) (nb cb : Nat) (al : List Int) (w : World) (hr : Ints w A (flat ss)) (hl : ss.length = n) (hn : n ≤ 2000000) (hb : Ints w B al) (lb : al.length = nb) (mb : nb ≤ 2000000) :
    Calls Try.prog 19 #[.slice A n cp, .slice B nb cb] w fun e w' => e = .returned (.bool (decide (flowOkI ss al))) ∧ Below w.heap.size w w' := by
  have c1 := impl_OutputDeps A n cp ss w hr hl hn
  have hlen := depsI_length ss
  have hbb := hb.bound
  by_cases hu : unrI ss
  case neg =>
    rw [decide_eq_false hu] at c1
    rw [decide_eq_false (fun h => hu h.1)]
    clear hu hr hb hbb hlen
    go_enter Try.func19, Try.ntmps19
    go_wp2_with fail
    refine c1.mono ?_
    rintro e w1 ⟨D, m, c, rfl, -, hb1⟩
    go_wp2_with fail
    go_ret
    exact ⟨rfl, hb1⟩
  have hiff : flowOkI ss al ↔ within (depsI ss) al := by unfold flowOkI depsI; rw [if_pos hu]; exact ⟨fun h => h.2, fun h => ⟨hu, h⟩⟩
  rw [decide_eq_true hu] at c1
  have Hiff := Lib.hid hiff
  generalize depsI ss = ds at *
  clear hu hr hiff
  by_cases hne : ds.length = nb
  case neg =>
    have Hr := Lib.hid (decide_eq_false (fun h : flowOkI ss al => hne (by rw [← lb]; exact (Hiff.out.1 h).1)))
    go_enter Try.func19, Try.ntmps19
    go_wp2_with fail
    refine c1.mono ?_
    rintro e w1 ⟨D, m, c, rfl, o, hb1⟩
    have hm := o.len1
    have hmn : ¬ (m : Int) = (nb : Int) := by omega
    clear o hm hne c1 hlen hb hbb lb
    go_wp2_with fail
    go_ret
    exact ⟨ret_bool Hr.out.symm, hb1⟩
  have LB := Lib.hid lb
  have LD := Lib.hid hne
  clear lb hne hb
  go_enter Try.func19, Try.ntmps19
  go_wp2_with fail
  refine c1.mono ?_
  rintro e w1 ⟨D, m, c, rfl, o, hb1⟩
  obtain rfl : m = nb := by rw [← o.len1, LD.out]
  have iD := o.ints
  have iB := (hbb.below hb1).ints hb1.size
  clear o c1 hbb hlen
  go_wp2_with fail
  go_loopw [25] (fun i wr => ∃ k : Nat, k ≤ m ∧ i = .int .i64 k ∧ Hid (∀ j, j < k → 0 ≤ al.getD j 0 ∧ bits .andNot .i64 (ds.getD j 0) (al.getD j 0) = 0) ∧ Hid (wr = w1)) (fun i _ => m - (intOf i).toNat)
  case atStart => exact ⟨0, Nat.zero_le _, rfl, Lib.hid (fun j hj => by omega), Lib.hid rfl⟩
  case round =>
    obtain ⟨k, hk, rfl, hall, hw⟩ := hrel
    obtain rfl : w1 = wr := hw.out.symm
    clear hw
    by_cases hlt : k < m
    · have hkd : k < ds.length := by rw [LD.out]; exact hlt
      obtain ⟨g, o, rfl, _, q0⟩ := iD.at_ hkd
      obtain ⟨g2, o2, rfl, _, q1⟩ := iB.at_ (j := k) (by rw [LB.out]; exact hlt)
      have hbad := Lib.hid (within_bad (al := al) hkd)
      generalize hx : ds.getD k 0 = x at *
      generalize hy : al.getD k 0 = y at *
      have Hx := Lib.hid hx
      have Hy := Lib.hid hy
      have k0 : (0 : Int) ≤ k := by omega
      have k1 : (k : Int) < m := by omega
      clear hx hy iD iB hkd
      by_cases hy0 : y < 0
      · have Hr := Lib.hid (decide_eq_false (fun h : flowOkI ss al => hbad.out (.inl hy0) (Hiff.out.1 h)))
        go_wp2_with fail
        go_ret
        exact ⟨ret_bool Hr.out.symm, hb1⟩
      · by_cases hz : bits .andNot .i64 x y = 0
        · have Hn : Hid (∀ j, j < k + 1 → 0 ≤ al.getD j 0 ∧ bits .andNot .i64 (ds.getD j 0) (al.getD j 0) = 0) := Lib.hid (fun j hj => by
            rcases Nat.lt_or_ge j k with h | h
            · exact hall.out j h
            · obtain rfl : j = k := by omega
              rw [Hx.out, Hy.out]
              exact ⟨by omega, hz⟩)
          clear hbad hall
          go_wp2_with fail
          go_roundw
          case rel => exact ⟨k + 1, by omega, by go_num, Hn, Lib.hid (by trivial)⟩
          case measure => simp [intOf]; omega
        · have Hr := Lib.hid (decide_eq_false (fun h : flowOkI ss al => hbad.out (.inr hz) (Hiff.out.1 h)))
          go_wp2_with fail
          go_ret
          exact ⟨ret_bool Hr.out.symm, hb1⟩
    · obtain rfl : k = m := by omega
      have Hr := Lib.hid (decide_eq_true (Hiff.out.2 ⟨by rw [LD.out, LB.out], fun j hj => hall.out j (by rw [← LD.out]; exact hj)⟩))
      clear iD iB hall
      go_wp2_with fail
      go_ret
      exact ⟨ret_bool Hr.out.symm, hb1⟩
end Go.Proofs.Ytlaidjibcpfnjaa

namespace Go.Proofs.Ytlaidjibcpfnjaa
open Go Go.RowKit
theorem ex_impl_FlowNew (w : World) : Calls Try.prog 57 #[] w (Post_Flow (List.replicate 8 0) [] w) := impl_FlowNew w
theorem ex_impl_FlowStep (A0 : Option Addr) (n0 c0 : Nat) (rs : List Int) (A1 : Option Addr) (n1 c1 : Nat) (os : List Int) (op d a b c n : Int) (w : World) (h0 : Ints w A0 rs) (l0 : rs.length = n0) (m0 : n0 ≤ 1999999) (_v0 : ∀ z ∈ rs, (Lit.int .i64 z).wf = true) (h1 : Ints w A1 os) (l1 : os.length = n1) (m1 : n1 ≤ 1999999) (_v1 : ∀ z ∈ os, (Lit.int .i64 z).wf = true) :
    Calls Try.prog 58 #[.agg #[.slice A0 n0 c0, .slice A1 n1 c1], .agg #[.int .i64 op, .int .i64 d, .int .i64 a, .int .i64 b, .int .i64 c, .int .i64 n]] w (Post_Flow (flowR rs op d a b c n) (flowO rs os op d a b c n) w) :=
  impl_FlowStep A0 n0 c0 rs A1 n1 c1 os op d a b c n w h0 l0 m0 h1 l1 m1
theorem ex_impl_OutputDeps (A : Option Addr) (n cp : Nat) (ss : List St) (w : World) (hr : Ints w A (flat ss)) (hl : ss.length = n) (hn : n ≤ 2000000) : Calls Try.prog 16 #[.slice A n cp] w (Post_A_bool (depsI ss) (decide (unrI ss)) w) := impl_OutputDeps A n cp ss w hr hl hn
theorem ex_impl_FlowOk (A : Option Addr) (n cp : Nat) (ss : List St) (B : Option Addr) (nb cb : Nat) (al : List Int) (w : World) (hr : Ints w A (flat ss)) (hl : ss.length = n) (hn : n ≤ 2000000) (hb : Ints w B al) (lb : al.length = nb) (mb : nb ≤ 2000000) : Calls Try.prog 19 #[.slice A n cp, .slice B nb cb] w (Post_bool (decide (flowOkI ss al)) w) := impl_FlowOk A n cp ss B nb cb al w hr hl hn hb lb mb
end Go.Proofs.Ytlaidjibcpfnjaa
