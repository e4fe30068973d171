/- The law FnStatements. No condition. -/
import Derived.Test.YtgnpfhopigcikaaProg
import Derived.Test.YtgnpfhopigcikaaPgF
import Derived.Test.YtgnpfhopigcikaaFieldW
import Derived.Test.YtgnpfhopigcikaaStmtJ
import Derived.Test.YtgnpfhopigcikaaPg8
namespace Go.Proofs.Ytgnpfhopigcikaa
open Go Go.RowKit
set_option maxHeartbeats 2000000 in
set_option maxRecDepth 100000 in
theorem FnStatements_walk (A : Option Addr) (n c : Nat) (w : World) (hb : Bytes w.heap.size w A n) (hm : n ≤ 9223372036854775807) :
    Calls Try.prog 3 #[.slice A n c] w fun e w' => e = .returned (.bool true) ∧ Below w.heap.size w w' := by
  by_cases hn : 1048576 < n
  · go_enter Try.func3, Try.ntmps3
    go_wp2_with fail
    refine (big_any A n c w true (by simpa using hn) hm).mono ?_
    rintro e w1 ⟨rfl, rfl⟩
    go_wp2_with fail
    go_ret
    exact ⟨rfl, Below.refl _ _⟩
  · have hn' : n ≤ 1048576 := by omega
    go_enter Try.func3, Try.ntmps3
    go_wp2_with fail
    refine (big_any A n c w false (by simpa using hn') hm).mono ?_
    rintro e w1 ⟨rfl, rfl⟩
    go_wp2_with fail
    refine (DrawProgram_any A n c w hb (by omega)).mono ?_
    intro e w1 h
    obtain ⟨A1, m1, c1, ss, rfl, hl, hP, o1, low⟩ := h
    go_wp2_with fail
    refine (DrawPlaces_any A n c w1 (hb.more low low.size) (by omega)).mono ?_
    rintro e w4 ⟨g, cap, zs, rfl, hzl, hpl, hown, hb4⟩
    replace low := low.trans (hb4.mono low.size)
    replace o1 := o1.below hb4
    have hi := Ints.of_own hown
    obtain ⟨_, _, e0, _, d0⟩ := hi.at_ (j := 0) (by omega)
    injection e0 with e0
    injection e0 with e00 e01
    subst e00 e01
    have x0 := hpl.at_ (j := 0) (by omega)
    generalize zs.getD 0 0 = q0 at d0 x0
    simp only [Nat.zero_add] at d0
    obtain ⟨x00, x01⟩ := x0
    have hlo := hP.lo
    have hle := hP.len
    have hmod : 0 ≤ q0 % (m1 : Int) ∧ q0 % (m1 : Int) < m1 := ⟨Int.emod_nonneg _ (by omega), Int.emod_lt_of_pos _ (by omega)⟩
    obtain ⟨k, hk⟩ := Int.eq_ofNat_of_zero_le hmod.1
    rw [hk] at hmod
    have hk1 : k < m1 := by omega
    rcases hs : ss.getD k s0 with ⟨op, d, a, b, c2, nn⟩
    obtain ⟨g', o', rfl, hg', z0, z1, z2, z3, z4, z5⟩ := cell6 o1.ints.bound (by omega) hs
    have hok : okI op d a b c2 nn := by have := (hP.at_ (k := k) (by omega)).1; rw [hs] at this; exact this
    have HP := Lib.hid hP
    have Hl := Lib.hid hl
    have m3 : 3 ≤ m1 := by omega
    have m30 : m1 ≤ 30 := by omega
    have r1 := Lib.hid (reads_range hok)
    have r2 := writes_range hok
    have r3 := Lib.hid (out_only hok)
    have r4 : readsOf op d a b c2 nn = readsI op a b c2 := if_pos hok
    have cR := impl_ReadsOf op d a b c2 nn
    rw [r4] at cR
    have cO := impl_StmtOk op d a b c2 nn
    rw [decide_eq_true hok] at cO
    have cP := impl_ProgramOk (some ⟨g', o', none⟩) m1 c1 ss
    rw [decide_eq_true hP.prog] at cP
    clear hown hi hpl hzl hb hb4 hm hn hn' hs hP hl hlo hle r4 hok hmod
    have k0 : (0 : Int) ≤ k := by omega
    have k1 : (k : Int) < m1 := by omega
    have tm : ¬ (m1 : Int) = 0 := by omega
    go_wp2_with fail
    have b5 := heap_alloc_new w4 (.cells #[.int .i64 op, .int .i64 d, .int .i64 a, .int .i64 b, .int .i64 c2, .int .i64 nn] 29)
    replace low := low_alloc low (.cells #[.int .i64 op, .int .i64 d, .int .i64 a, .int .i64 b, .int .i64 c2, .int .i64 nn] 29)
    replace o1 := o1.alloc (.cells #[.int .i64 op, .int .i64 d, .int .i64 a, .int .i64 b, .int .i64 c2, .int .i64 nn] 29)
    refine (cR _).mono ?_
    intro e w5 h
    obtain ⟨A5, m5, c5, rfl, l5, o5, hb5⟩ := h
    generalize hxs : readsI op a b c2 = xs at *
    replace low := low.trans (hb5.mono low.size)
    replace o1 := o1.below hb5
    replace b5 := heap_below b5 hb5
    generalize w4.heap.size = q at *
    have hx3 : m5 ≤ 3 := by rw [← l5, ← hxs]; unfold readsI; split; simp; split; simp; split <;> simp
    clear hxs hb5 cR z0 z1 z2 z3 z4 z5 hk d0
    have L5 := Lib.hid l5
    clear l5
    have c0 := (blk (i := 0) b5 rfl).1
    have d1 := (blk (i := 1) b5 rfl).1
    have d2 := (blk (i := 2) b5 rfl).1
    have d3 := (blk (i := 3) b5 rfl).1
    have d4 := (blk (i := 4) b5 rfl).1
    have d5 := (blk (i := 5) b5 rfl).1
    go_wp2_with fail
    have cW := impl_WritesOf op d a b c2 nn
    generalize writesOf op d a b c2 nn = wr at *
    refine (cW _).mono ?_
    rintro e w6 ⟨rfl, hb6⟩
    replace low := low.trans (hb6.mono low.size)
    replace o1 := o1.below hb6
    replace b5 := heap_below b5 hb6
    replace o5 := o5.below hb6
    clear hb6 cW c0 d1 d2 d3 d4 d5
    obtain ⟨r20, r21⟩ := r2
    go_wp2_with fail
    go_loopw [8] (fun i wx => ∃ j : Nat, j ≤ m5 ∧ i = .int .i64 j ∧ ∃ nn, wx = w6.drewN nn) (fun i _ => m5 - (intOf i).toNat)
    case atStart => exact ⟨0, Nat.zero_le _, rfl, 0, rfl⟩
    case round =>
      obtain ⟨j, hj, rfl, nd, rfl⟩ := hrel
      by_cases hlt : j < m5
      · obtain ⟨b', oo, rfl, hb', hcc⟩ := o5.ints.at_ (j := j) (by rw [L5.out]; exact hlt)
        have hx := r1.out (xs.getD j 0) (by rw [List.getD_eq_getElem?_getD, List.getElem?_eq_getElem (by rw [L5.out]; exact hlt)]; exact List.getElem_mem _)
        generalize xs.getD j 0 = x at hx hcc
        obtain ⟨hx0, hx7⟩ := hx
        have hcd : (w6.drewN nd).cell? ⟨b', oo + j, none⟩ = some (.int .i64 x) := hcc
        have k0' : (0 : Int) ≤ j := by omega
        have k1' : (j : Int) < m5 := by omega
        clear o5 o1 hcc
        go_wp2_with fail
        go_roundw
        case rel => exact ⟨j + 1, by omega, by go_num, nd, rfl⟩
        case measure => simp [intOf]; omega
      · obtain rfl : j = m5 := by omega
        replace low := below_drewN low nd
        replace o1 := o1.below (below_drewN (Below.refl _ _) nd)
        replace b5 : (w6.drewN nd).heap[q]? = some (.cells #[.int .i64 op, .int .i64 d, .int .i64 a, .int .i64 b, .int .i64 c2, .int .i64 nn] 29 (0, 0)) := b5
        generalize w6.drewN nd = w7 at *
        have c0 := (blk (i := 0) b5 rfl).1
        have d1 := (blk (i := 1) b5 rfl).1
        have d2 := (blk (i := 2) b5 rfl).1
        have d3 := (blk (i := 3) b5 rfl).1
        have d4 := (blk (i := 4) b5 rfl).1
        have d5 := (blk (i := 5) b5 rfl).1
        clear o5
        have hcases : (op = 11 ∧ wr = -1 ∧ j = 1) ∨ (op ≠ 11 ∧ wr = -1 ∧ j ≠ 1) ∨ (op ≠ 11 ∧ wr ≠ -1) := by
          have h := r3.out
          rw [L5.out] at h
          by_cases h1 : op = 11
          · exact .inl ⟨h1, h.1 h1⟩
          · by_cases h2 : wr = -1
            · exact .inr (.inl ⟨h1, h2, fun h3 => h1 (h.2 ⟨h2, h3⟩)⟩)
            · exact .inr (.inr ⟨h1, h2⟩)
        have cN := impl_PartiesOf (some ⟨g', o', none⟩) m1 c1 ss
        have hge := HP.out.parts
        generalize partsI ss = pp at *
        have p30 : m1 ≤ 2000000 := by omega
        clear r3 hj hx3 hlt
        rcases hcases with ⟨h1, h2, h3⟩ | ⟨h1, h2, h3⟩ | ⟨h1, h2⟩
        · have t1 : (op == 11) = true := by simpa using h1
          have t2 : (wr == -1) = true := by simpa using h2
          have t3 : ((j : Int) == 1) = true := by simp; omega
          clear h1 h2 h3
          go_wp2_with fail
          refine (cO _).mono ?_
          rintro e w8 ⟨rfl, hb8⟩
          replace low := low.trans (hb8.mono low.size)
          replace o1 := o1.below hb8
          replace b5 := heap_below b5 hb8
          clear hb8 c0 d1 d2 d3 d4 d5
          go_wp2_with fail
          refine (cP _ o1.ints Hl.out p30).mono ?_
          rintro e w9 ⟨rfl, hb9⟩
          replace low := low.trans (hb9.mono low.size)
          replace o1 := o1.below hb9
          replace b5 := heap_below b5 hb9
          have c0 := (blk (i := 0) b5 rfl).1
          clear hb9
          go_wp2_with fail
          refine (cN _ o1.ints Hl.out p30).mono ?_
          rintro e w10 ⟨rfl, hb10⟩
          replace low := low.trans (hb10.mono low.size)
          clear hb10 cN cP cO
          go_wp2_with fail
          go_ret
          exact ⟨rfl, low⟩
        · have t1 : (op == 11) = false := beq_eq_false_iff_ne.2 h1
          have t2 : (wr == -1) = true := by simpa using h2
          have t3 : ((j : Int) == 1) = false := beq_eq_false_iff_ne.2 (by omega)
          clear h1 h2 h3
          go_wp2_with fail
          refine (cO _).mono ?_
          rintro e w8 ⟨rfl, hb8⟩
          replace low := low.trans (hb8.mono low.size)
          replace o1 := o1.below hb8
          replace b5 := heap_below b5 hb8
          clear hb8 c0 d1 d2 d3 d4 d5
          go_wp2_with fail
          refine (cP _ o1.ints Hl.out p30).mono ?_
          rintro e w9 ⟨rfl, hb9⟩
          replace low := low.trans (hb9.mono low.size)
          replace o1 := o1.below hb9
          replace b5 := heap_below b5 hb9
          have c0 := (blk (i := 0) b5 rfl).1
          clear hb9
          go_wp2_with fail
          refine (cN _ o1.ints Hl.out p30).mono ?_
          rintro e w10 ⟨rfl, hb10⟩
          replace low := low.trans (hb10.mono low.size)
          clear hb10 cN cP cO
          go_wp2_with fail
          go_ret
          exact ⟨rfl, low⟩
        · have t1 : (op == 11) = false := beq_eq_false_iff_ne.2 h1
          have t2 : (wr == -1) = false := beq_eq_false_iff_ne.2 h2
          clear h1 h2
          go_wp2_with fail
          refine (cO _).mono ?_
          rintro e w8 ⟨rfl, hb8⟩
          replace low := low.trans (hb8.mono low.size)
          replace o1 := o1.below hb8
          replace b5 := heap_below b5 hb8
          clear hb8 c0 d1 d2 d3 d4 d5
          go_wp2_with fail
          refine (cP _ o1.ints Hl.out p30).mono ?_
          rintro e w9 ⟨rfl, hb9⟩
          replace low := low.trans (hb9.mono low.size)
          replace o1 := o1.below hb9
          replace b5 := heap_below b5 hb9
          have c0 := (blk (i := 0) b5 rfl).1
          clear hb9
          go_wp2_with fail
          refine (cN _ o1.ints Hl.out p30).mono ?_
          rintro e w10 ⟨rfl, hb10⟩
          replace low := low.trans (hb10.mono low.size)
          clear hb10 cN cP cO
          go_wp2_with fail
          go_ret
          exact ⟨rfl, low⟩
end Go.Proofs.Ytgnpfhopigcikaa
