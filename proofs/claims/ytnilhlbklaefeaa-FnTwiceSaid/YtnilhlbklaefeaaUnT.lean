/- The law FnTwice: the walk. No condition. -/
import Derived.Test.YtnilhlbklaefeaaProg
import Derived.Test.YtnilhlbklaefeaaPgF
import Derived.Test.YtnilhlbklaefeaaFieldW
import Derived.Test.YtnilhlbklaefeaaUnU
import Derived.Test.YtnilhlbklaefeaaUnDi
namespace Go.Proofs.Ytnilhlbklaefeaa
open Go Go.RowKit
/-- A loop round one statement. -/
theorem twice_prog {s : St} {n : Int} (hs : s.ok) (h12 : s.op ≠ 12) (h13 : s.op ≠ 13) (hn : 1 ≤ n ∧ n ≤ 8) :
    progI [loopSt n, s, endSt] ∧ unrollL [loopSt n, s, endSt] = List.replicate n.toNat s ∧ depthI [loopSt n, s, endSt] = 1 := by
  have ok1 : (loopSt n).ok := by simp [loopSt, St.ok, okI]; omega
  have ok2 : endSt.ok := by simp [endSt, St.ok, okI]
  have e1 : dl (loopSt n).op = 1 := rfl
  have e2 : dl endSt.op = -1 := rfl
  have e3 : dl s.op = 0 := by unfold dl; rw [if_neg h12, if_neg h13]
  have hp : progI [loopSt n, s, endSt] := by
    refine ⟨by simp, ?_⟩
    simp only [runD, e1, e2, e3]
    rw [if_pos ⟨ok1, by omega, by omega⟩, if_pos ⟨hs, by omega, by omega⟩, if_pos ⟨ok2, by omega, by omega⟩]
    rfl
  refine ⟨hp, ?_, ?_⟩
  · rw [← rep_one]
    unfold unrollL
    simp [mach, loopSt, endSt, h12, h13]
  · unfold depthI
    rw [if_pos hp]
    simp only [deepN, e1, e2, e3]
    omega
/-- The list of three statements, just laid. -/
theorem three_own (W0 : World) (base : Nat) (hb : base ≤ W0.heap.size) (N op d a b c m : Int) : OwnS base (W0.alloc (.cells #[.int .i64 12, .int .i64 0, .int .i64 0, .int .i64 0, .int .i64 0, .int .i64 N, .int .i64 op, .int .i64 d, .int .i64 a, .int .i64 b, .int .i64 c, .int .i64 m, .int .i64 13, .int .i64 0, .int .i64 0, .int .i64 0, .int .i64 0, .int .i64 0] 30)) (.slice (some ⟨W0.heap.size, 0, none⟩) 3 3) 3 [loopSt N, ⟨op, d, a, b, c, m⟩, endSt] :=
  own_whole_n W0 #[.int .i64 12, .int .i64 0, .int .i64 0, .int .i64 0, .int .i64 0, .int .i64 N, .int .i64 op, .int .i64 d, .int .i64 a, .int .i64 b, .int .i64 c, .int .i64 m, .int .i64 13, .int .i64 0, .int .i64 0, .int .i64 0, .int .i64 0, .int .i64 0] 30 base 3 6 hb (by unfold maxLen; omega) rfl
theorem twice_calls {op d a b c m N : Int} (hok : (⟨op, d, a, b, c, m⟩ : St).ok) (h12 : op ≠ 12) (h13 : op ≠ 13) (hN : 1 ≤ N ∧ N ≤ 8) :
    (∀ (W0 : World) (B : Nat), W0.heap.size = B → Calls Try.prog 11 #[.slice (some ⟨B, 0, none⟩) 3 3] (W0.alloc (.cells #[.int .i64 12, .int .i64 0, .int .i64 0, .int .i64 0, .int .i64 0, .int .i64 N, .int .i64 op, .int .i64 d, .int .i64 a, .int .i64 b, .int .i64 c, .int .i64 m, .int .i64 13, .int .i64 0, .int .i64 0, .int .i64 0, .int .i64 0, .int .i64 0] 30))
      fun e w' => ∃ (Z : Option Addr) (k cz : Nat), e = .returned (.tuple #[.slice Z k cz, .bool true]) ∧ (k : Int) = N ∧ Ints w' Z (flat (List.replicate k ⟨op, d, a, b, c, m⟩)) ∧ Below (W0.alloc (.cells #[.int .i64 12, .int .i64 0, .int .i64 0, .int .i64 0, .int .i64 0, .int .i64 N, .int .i64 op, .int .i64 d, .int .i64 a, .int .i64 b, .int .i64 c, .int .i64 m, .int .i64 13, .int .i64 0, .int .i64 0, .int .i64 0, .int .i64 0, .int .i64 0] 30)).heap.size (W0.alloc (.cells #[.int .i64 12, .int .i64 0, .int .i64 0, .int .i64 0, .int .i64 0, .int .i64 N, .int .i64 op, .int .i64 d, .int .i64 a, .int .i64 b, .int .i64 c, .int .i64 m, .int .i64 13, .int .i64 0, .int .i64 0, .int .i64 0, .int .i64 0, .int .i64 0] 30)) w') ∧
    (∀ (W0 : World) (B : Nat), W0.heap.size = B → Calls Try.prog 13 #[.slice (some ⟨B, 0, none⟩) 3 3] (W0.alloc (.cells #[.int .i64 12, .int .i64 0, .int .i64 0, .int .i64 0, .int .i64 0, .int .i64 N, .int .i64 op, .int .i64 d, .int .i64 a, .int .i64 b, .int .i64 c, .int .i64 m, .int .i64 13, .int .i64 0, .int .i64 0, .int .i64 0, .int .i64 0, .int .i64 0] 30))
      fun e w' => e = .returned (.int .i64 1) ∧ Below (W0.alloc (.cells #[.int .i64 12, .int .i64 0, .int .i64 0, .int .i64 0, .int .i64 0, .int .i64 N, .int .i64 op, .int .i64 d, .int .i64 a, .int .i64 b, .int .i64 c, .int .i64 m, .int .i64 13, .int .i64 0, .int .i64 0, .int .i64 0, .int .i64 0, .int .i64 0] 30)).heap.size (W0.alloc (.cells #[.int .i64 12, .int .i64 0, .int .i64 0, .int .i64 0, .int .i64 0, .int .i64 N, .int .i64 op, .int .i64 d, .int .i64 a, .int .i64 b, .int .i64 c, .int .i64 m, .int .i64 13, .int .i64 0, .int .i64 0, .int .i64 0, .int .i64 0, .int .i64 0] 30)) w') := by
  obtain ⟨hp, hu, hd⟩ := twice_prog (n := N) hok h12 h13 hN
  have hU : unrI [loopSt N, ⟨op, d, a, b, c, m⟩, endSt] := ⟨hp, by rw [hu, List.length_replicate]; omega⟩
  refine ⟨fun W0 B hB => ?_, fun W0 B hB => ?_⟩
  · subst hB
    have o := OwnS.ints (three_own W0 0 (Nat.zero_le _) N op d a b c m)
    have cU := impl_Unroll _ 3 3 _ _ o.1 o.2 (by omega)
    unfold Post_S_bool at cU
    rw [show unrV [loopSt N, ⟨op, d, a, b, c, m⟩, endSt] = unrollL [loopSt N, ⟨op, d, a, b, c, m⟩, endSt] from if_pos hU, decide_eq_true hU, hu] at cU
    refine cU.mono ?_
    rintro e w' ⟨Z, k, cz, rfl, hk, ho, hb⟩
    rw [List.length_replicate] at hk
    subst hk
    exact ⟨Z, _, cz, rfl, by omega, ho.ints, hb⟩
  · subst hB
    have o := OwnS.ints (three_own W0 0 (Nat.zero_le _) N op d a b c m)
    have cD := impl_LoopDepth _ 3 3 _ _ o.1 o.2 (by omega)
    rw [hd] at cD
    refine cD.mono ?_
    rintro e w' ⟨rfl, hb⟩
    exact ⟨rfl, hb⟩
theorem rep_at {k i : Nat} (T : St) (h : i < k) : (List.replicate k T).getD i s0 = T := by
  rw [List.getD_eq_getElem?_getD, List.getElem?_eq_getElem (by rw [List.length_replicate]; exact h), Option.getD_some, List.getElem_replicate]
set_option maxHeartbeats 2000000 in
set_option maxRecDepth 100000 in
theorem FnTwice_walk (A : Option Addr) (n c : Nat) (w : World) (hb : Bytes w.heap.size w A n) (hm : n ≤ 9223372036854775807) :
    Calls Try.prog 4 #[.slice A n c] w fun e w' => e = .returned (.bool true) ∧ Below w.heap.size w w' := by
  by_cases hn : 1048576 < n
  · go_enter Try.func4, Try.ntmps4
    go_wp2_with fail
    refine (big_any A n c w true (by simpa using hn) hm).mono ?_
    rintro e w1 ⟨rfl, rfl⟩
    go_wp2_with fail
    go_ret
    exact ⟨rfl, Below.refl _ _⟩
  · have hn' : n ≤ 1048576 := by omega
    go_enter Try.func4, Try.ntmps4
    go_wp2_with fail
    refine (big_any A n c w false (by simpa using hn') hm).mono ?_
    rintro e w1 ⟨rfl, rfl⟩
    go_wp2_with fail
    refine (DrawProgram_any A n c w hb (by omega)).mono ?_
    intro e w1 h
    obtain ⟨A1, m1, c1, ss, rfl, hl, hP, o1, low⟩ := h
    go_wp2_with fail
    refine (DrawPlaces_any A n c w1 (hb.more low low.size) (by omega)).mono ?_
    rintro e w4 ⟨g, cap, zs, rfl, hzl, hpl, hown, hb4⟩
    replace low := low.trans (hb4.mono low.size)
    replace o1 := o1.below hb4
    have hi := Ints.of_own hown
    obtain ⟨_, _, e0, hgl, d0⟩ := hi.at_ (j := 0) (by omega)
    injection e0 with e0
    injection e0 with e00 e01
    subst e00 e01
    obtain ⟨_, _, e0, _, d1⟩ := hi.at_ (j := 1) (by omega)
    injection e0 with e0
    injection e0 with e00 e01
    subst e00 e01
    have x0 := hpl.at_ (j := 0) (by omega)
    have x1 := hpl.at_ (j := 1) (by omega)
    generalize zs.getD 0 0 = p0 at d0 x0
    generalize zs.getD 1 0 = p1 at d1 x1
    simp only [Nat.zero_add] at d0 d1
    obtain ⟨x00, x01⟩ := x0
    obtain ⟨x10, x11⟩ := x1
    have hlo := hP.lo
    have hle := hP.len
    have hmod : 0 ≤ p0 % (m1 : Int) ∧ p0 % (m1 : Int) < m1 := ⟨Int.emod_nonneg _ (by omega), Int.emod_lt_of_pos _ (by omega)⟩
    obtain ⟨k, hk⟩ := Int.eq_ofNat_of_zero_le hmod.1
    rw [hk] at hmod
    have hk1 : k < m1 := by omega
    rcases hs : ss.getD k s0 with ⟨op, d, a, b, c2, nn⟩
    obtain ⟨g', o', rfl, hg', z0, z1, z2, z3, z4, z5⟩ := cell6 o1.ints.bound (by omega) hs
    have hok : (⟨op, d, a, b, c2, nn⟩ : St).ok := by have := (hP.at_ (k := k) (by omega)).1; rw [hs] at this; exact this
    have m3 : 3 ≤ m1 := by omega
    have hN : 1 ≤ 1 + p1 % 8 ∧ 1 + p1 % 8 ≤ 8 := by omega
    have k0 : (0 : Int) ≤ k := by omega
    have k1 : (k : Int) < m1 := by omega
    have tm : ¬ (m1 : Int) = 0 := by omega
    have hcase : op = 12 ∨ op = 13 ∨ (op ≠ 12 ∧ op ≠ 13) := by omega
    have h3 : (⟨11, 0, 3, 0, 0, 0⟩ : St).ok := by simp [St.ok, okI, isReg]
    have hf : ∀ u : Array Value, (w4.alloc (.cells u 30)).cell? ⟨g, 1, none⟩ = some (.int .i64 p1) := fun u => (World.cell?_of_block (Below.heap_alloc w4 _ g hgl)).trans d1
    clear hown hi hpl hzl hb hb4 hm hn hn' hs hP hl hlo hle hmod
    rcases hcase with rfl | rfl | ⟨h12, h13⟩
    case' inl => obtain ⟨cU, cD⟩ := twice_calls (N := 1 + p1 % 8) h3 (by decide) (by decide) hN
    case' inr.inl => obtain ⟨cU, cD⟩ := twice_calls (N := 1 + p1 % 8) h3 (by decide) (by decide) hN
    case' inr.inr =>
      obtain ⟨cU, cD⟩ := twice_calls (N := 1 + p1 % 8) hok h12 h13 hN
      have t1 : (op == 12) = false := beq_eq_false_iff_ne.2 h12
      have t2 : (op == 13) = false := beq_eq_false_iff_ne.2 h13
      clear h12 h13
    all_goals
      clear h3 hok
      go_wp2_with fail
      refine (cU _ _ (by simp)).mono ?_
      rintro e w5 ⟨Z, q, cz, rfl, hq, hz, hb5⟩
      have hbox := heap_below (heap_below (heap_alloc_new w4 (.cells _ 30)) (below_alloc _ (.cells _ 30))) hb5
      have low5 := (low_alloc (low_alloc low _) _).trans (hb5.mono (low_alloc (low_alloc low _) _).size)
      have tq : ((q : Int) == 1 + p1 % 8) = true := by simpa using hq
      have q8 : q ≤ 8 := by omega
      clear hb5 cU low hf hk hq z0 z1 z2 z3 z4 z5 d0 d1 o1
      go_wp2_with fail
      go_loopw [9] (fun i wr => ∃ j : Nat, j ≤ q ∧ i = .int .i64 j ∧ ∃ nd, wr = w5.drewN nd) (fun i _ => q - (intOf i).toNat)
      case atStart => exact ⟨0, Nat.zero_le _, rfl, 0, rfl⟩
      case round =>
        obtain ⟨j, hj, rfl, nd, rfl⟩ := hrel
        by_cases hlt : j < q
        · have hlow : Below w5.heap.size w5 (w5.drewN nd) := below_drewN (Below.refl _ _) nd
          obtain ⟨gz, oz, rfl, -, q0, q1, q2, q3, q4, q5⟩ := cell6 (hz.bound.below hlow) (by rw [List.length_replicate]; exact hlt) (rep_at _ hlt)
          have hboxd := heap_below hbox hlow
          have c0 := (blk (i := 0) hboxd rfl).1
          have c1 := (blk (i := 1) hboxd rfl).1
          have c2 := (blk (i := 2) hboxd rfl).1
          have c3 := (blk (i := 3) hboxd rfl).1
          have c4 := (blk (i := 4) hboxd rfl).1
          have c5 := (blk (i := 5) hboxd rfl).1
          have k0 : (0 : Int) ≤ j := by omega
          have k1 : (j : Int) < q := by omega
          clear hbox hz hlow hboxd cD
          have hwr := Lib.hid (rfl : w5.drewN nd = w5.drewN nd)
          generalize hww : w5.drewN nd = wr at q0 q1 q2 q3 q4 q5 c0 c1 c2 c3 c4 c5 ⊢
          replace hwr := Lib.hid hww
          clear hww
          go_wp2_with fail
          go_quiet (fail)
          go_wp2_with fail
          go_roundw
          case rel => exact ⟨j + 1, by omega, by go_num, _, by rw [← hwr.out]; exact (World.drewN_drewN ..)⟩
          case measure => simp [intOf]; omega
        · obtain rfl : j = q := by omega
          have hlow : Below w5.heap.size w5 (w5.drewN nd) := below_drewN (Below.refl _ _) nd
          have hboxd := heap_below hbox hlow
          have low6 := low5.trans (hlow.mono low5.size)
          generalize w5.drewN nd = w6 at *
          have c0 := (blk (i := 0) hboxd rfl).1
          have c1 := (blk (i := 1) hboxd rfl).1
          have c2 := (blk (i := 2) hboxd rfl).1
          have c3 := (blk (i := 3) hboxd rfl).1
          have c4 := (blk (i := 4) hboxd rfl).1
          have c5 := (blk (i := 5) hboxd rfl).1
          clear hbox hz hlow hboxd
          go_wp2_with fail
          refine (cD _ _ (by simp)).mono ?_
          rintro e w7 ⟨rfl, hb7⟩
          have low7 := (low_alloc low6 _).trans (hb7.mono (low_alloc low6 _).size)
          clear hb7 cD
          go_wp2_with fail
          go_ret
          exact ⟨rfl, low7⟩
end Go.Proofs.Ytnilhlbklaefeaa
