/- The law FnSources: the walk. -/
import Derived.Test.YtjclhlicginekaaGreatDoorProg
import Derived.Test.YtjclhlicginekaaGreatDoorSoU
import Derived.Test.YtjclhlicginekaaGreatDoorSoS
import Derived.Test.YtjclhlicginekaaGreatDoorPpI
import Derived.Test.YtjclhlicginekaaGreatDoorPgF
import Derived.Test.YtjclhlicginekaaGreatDoorFieldW
import Derived.BigQuiet
namespace Go.Proofs.YtjclhlicginekaaGreatDoor
open Go Go.RowKit
/-- A text with its bytes: one letter for both. -/
theorem text_of (l : List UInt8) : ∃ t : ByteArray, t = ⟨l.toArray⟩ ∧ t.data.toList = l ∧ t.size = l.length := ⟨_, rfl, rfl, by show l.toArray.size = _; simp⟩
theorem impl_ParseProgram_is (s : ByteArray) (R : List St × Int) (h : parseP s.data.toList = R) (w : World) (hm : s.size ≤ 1048576) (ht : TabOk w) (he : ErrOk w) (hz : 8 ≤ w.heap.size) :
    Calls Tryz.prog 9 #[.string s] w (PpPost R w) := by subst h; exact impl_ParseProgram s w hm ht he hz
set_option maxRecDepth 100000 in
set_option maxHeartbeats 4000000 in
theorem FnSources_walk (A : Option Addr) (n c : Nat) (w : World) (hb : Bytes w.heap.size w A n) (hm : n ≤ 9223372036854775807) (ht : TabOk w) (he : ErrOk w) (hz : 8 ≤ w.heap.size) :
    Calls Tryz.prog 3 #[.slice A n c] w fun e w' => e = .returned (.bool true) ∧ Below w.heap.size w w' := by
  by_cases hn : 1048576 < n
  · go_enter Tryz.func3, Tryz.ntmps3
    go_wp2_with fail
    refine (big_any A n c w true (by simpa using hn) hm).mono ?_
    rintro e w1 ⟨rfl, rfl⟩
    go_wp2_with fail
    go_ret
    exact ⟨rfl, Below.refl _ _⟩
  · have hn' : n ≤ 1048576 := by omega
    go_enter Tryz.func3, Tryz.ntmps3
    go_wp2_with fail
    refine (big_any A n c w false (by simpa using hn') hm).mono ?_
    rintro e w1 ⟨rfl, rfl⟩
    go_wp2_with fail
    refine (DrawProgram_any A n c w hb (by omega)).mono ?_
    intro e w1 h
    obtain ⟨A1, m1, c1, ss, rfl, hl, hP, o1, low⟩ := h
    go_wp2_with fail
    refine (DrawPlaces_any A n c w1 (hb.more low low.size) (by omega)).mono ?_
    rintro e w4 ⟨g, cap, zs, rfl, hzl, hpl, hown, hb4⟩
    replace low := low.trans (hb4.mono low.size)
    replace o1 := o1.below hb4
    have hlo := hP.lo
    have hle := hP.len
    have hpr := hP.prog
    have x0 := hpl.at_ (j := 0) (by omega)
    have q0e : ∃ q0 : Int, q0 = zs.getD 0 0 := ⟨_, rfl⟩
    obtain ⟨q0, hq0⟩ := q0e
    rw [← hq0] at x0
    obtain ⟨x00, x01⟩ := x0
    have hmod : 0 ≤ q0 % (m1 : Int) ∧ q0 % (m1 : Int) < m1 := ⟨Int.emod_nonneg _ (by omega), Int.emod_lt_of_pos _ (by omega)⟩
    obtain ⟨k, hk⟩ := Int.eq_ofNat_of_zero_le hmod.1
    rw [hk] at hmod
    have hk1 : k < m1 := by omega
    rcases hs : ss.getD k s0 with ⟨op, d, a, b, c2, nn⟩
    have hok : St.ok ⟨op, d, a, b, c2, nn⟩ := by have := (hP.at_ (k := k) (by omega)).1; rw [hs] at this; exact this
    obtain ⟨t, ht0, ht1, ht2⟩ := text_of (progL ss)
    obtain ⟨u, hu0, hu1, hu2⟩ := text_of (fmtL ⟨op, d, a, b, c2, nn⟩)
    have hts : t.size ≤ 880 := by rw [ht2]; exact prog_size hpr
    have hus : u.size ≤ 21 := by rw [hu2]; exact (fmt_len hok).1
    have hpp := parseP_prog hpr
    rw [← ht1] at hpp
    have hpw : parseP (t ++ ({ data := #[119, 114, 111, 110, 103] } : ByteArray)).data.toList = ([], (m1 : Int) + 1) := by
      have e : (t ++ ({ data := #[119, 114, 111, 110, 103] } : ByteArray)).data.toList = progL ss ++ wrongL := by rw [← ht1]; simp [wrongL]
      rw [e, parseP_wrong hpr, hl]
    have hps : parseL u.data.toList = some ⟨op, d, a, b, c2, nn⟩ := by rw [hu1]; exact parse_fmt hok
    have m30 : m1 ≤ 30 := by omega
    have m3 : 3 ≤ m1 := by omega
    have HP := Lib.hid (hpr)
    have Hl := Lib.hid hl
    have Hs := Lib.hid hs
    have Hq := Lib.hid hq0
    have Hpl := Lib.hid hzl
    have cPP := fun w h1 h2 h3 => impl_ParseProgram_is t _ hpp w (by omega) h1 h2 h3
    have cPW := fun w h1 h2 h3 => impl_ParseProgram_is (t ++ ({ data := #[119, 114, 111, 110, 103] } : ByteArray)) _ hpw w (by rw [ByteArray.size_append]; show t.size + 5 ≤ _; omega) h1 h2 h3
    have cFS := fun w h1 h2 => impl_FormatStmt_yes op d a b c2 nn w hok h1 h2
    rw [← hu0] at cFS
    have cPS := fun w h1 h2 h3 => impl_ParseStmt u (by omega) w h1 h2 h3
    rw [hps] at cPS
    have cPS2 : ∀ (w : World), TabOk w → ErrOk w → 8 ≤ w.heap.size → Calls Tryz.prog 11 #[.string u] w fun e w' => e = .returned (.tuple #[.agg #[.int .i64 op, .int .i64 d, .int .i64 a, .int .i64 b, .int .i64 c2, .int .i64 nn], .bool true]) ∧ Below w.heap.size w w' := cPS
    clear cPS
    have cPF := fun w h1 h2 h3 h4 => impl_FormatProgram_yes A1 m1 c1 ss w h1 h2 hpr h3 h4
    rw [← ht0] at cPF
    clear hpp hpw hps hok hu0 hu1 hu2 ht0 ht1 ht2 hs hq0 hpr hP hzl hn hn' hm hlo hle hl hpl hk1
    obtain ⟨g', o', rfl, hg', -, -, -, -, -, -⟩ := cell6 o1.ints.bound (by have := Hl.out; omega) Hs.out
    clear hb4
    have lkk : k < ss.length := by have := Hl.out; omega
    have k0 : (0 : Int) ≤ k := by omega
    have k1 : (k : Int) < m1 := by omega
    have tm : ¬ (m1 : Int) = 0 := by omega
    clear hmod
    have Hk := Lib.hid hk
    clear hk
    go_wp2_with fail
    refine (cPF _ o1.ints Hl.out (tab_at ht low hz) (top_at hz low)).mono ?_
    rintro e w5 ⟨rfl, hb5⟩
    replace o1 := o1.below hb5
    replace hown := own_below hown hb5
    replace low := low.trans (hb5.mono low.size)
    clear hb5 cPF
    go_wp2_with fail
    refine (cPP _ (tab_at ht low hz) (he.below low hz) (top_at hz low)).mono ?_
    intro e w6 h
    obtain ⟨A6, m6, c6, rfl, o6, hb6⟩ := h
    replace o1 := o1.below hb6
    replace hown := own_below hown hb6
    replace low := low.trans (hb6.mono low.size)
    have l6 : m6 = m1 := by have := (OwnS.ints o6.own).2; have := Hl.out; simp only at *; omega
    subst l6
    replace o6 : OwnSt w5.heap.size w6.heap.size w6 (.slice A6 m6 c6) m6 ss := o6
    clear hb6 cPP
    obtain ⟨_, _, e1, _, z0, z1, z2, z3, z4, z5⟩ := cell6 o1.ints.bound lkk Hs.out
    injection e1 with e1
    injection e1 with e10 e11
    subst e10 e11
    obtain ⟨_, _, e2, _, d0⟩ := (Ints.of_own hown).at_ (j := 0) (by have := Hpl.out; omega)
    injection e2 with e2
    injection e2 with e20 e21
    subst e20 e21
    rw [← Hq.out] at d0
    simp only [Nat.zero_add] at d0
    have hk := Hk.out
    go_wp2_with fail
    refine (cFS _ (tab_at ht low hz) (top_at hz low)).mono ?_
    rintro e w7 ⟨rfl, hb7⟩
    replace o1 := o1.below hb7
    replace o6 := o6.below hb7
    replace hown := own_below hown hb7
    replace low := low.trans (hb7.mono low.size)
    clear hb7 cFS z0 z1 z2 z3 z4 z5 d0 hk
    go_wp2_with fail
    refine (cPS2 _ (tab_at ht low hz) (he.below low hz) (top_at hz low)).mono ?_
    rintro e w8 ⟨rfl, hb8⟩
    replace o1 := o1.below hb8
    replace o6 := o6.below hb8
    replace hown := own_below hown hb8
    replace low := low.trans (hb8.mono low.size)
    clear hb8 cPS2
    have hbx := heap_alloc_new w8 (.cells #[.int .i64 op, .int .i64 d, .int .i64 a, .int .i64 b, .int .i64 c2, .int .i64 nn] 34)
    replace low := low_alloc low (.cells #[.int .i64 op, .int .i64 d, .int .i64 a, .int .i64 b, .int .i64 c2, .int .i64 nn] 34)
    replace o1 := o1.alloc (.cells #[.int .i64 op, .int .i64 d, .int .i64 a, .int .i64 b, .int .i64 c2, .int .i64 nn] 34)
    replace o6 := o6.alloc (.cells #[.int .i64 op, .int .i64 d, .int .i64 a, .int .i64 b, .int .i64 c2, .int .i64 nn] 34)
    replace hown := own_below hown (below_alloc w8 (.cells #[.int .i64 op, .int .i64 d, .int .i64 a, .int .i64 b, .int .i64 c2, .int .i64 nn] 34))
    have htc : ¬ 9223372036854775807 < t.size + 5 := by omega
    go_wp2_with fail
    refine (cPW _ (tab_at ht low hz) (he.below low hz) (top_at hz low)).mono ?_
    intro e w9 h
    obtain ⟨A9, m9, c9, rfl, o9, hb9⟩ := h
    replace o1 := o1.below hb9
    replace o6 := o6.below hb9
    replace hown := own_below hown hb9
    replace low := low.trans (hb9.mono low.size)
    have hbx9 := heap_below hbx hb9
    clear hb9 cPW hbx o9
    generalize w8.heap.size = gx at *
    have y0 := (blk (i := 0) hbx9 rfl).1
    have y1 := (blk (i := 1) hbx9 rfl).1
    have y2 := (blk (i := 2) hbx9 rfl).1
    have y3 := (blk (i := 3) hbx9 rfl).1
    have y4 := (blk (i := 4) hbx9 rfl).1
    have y5 := (blk (i := 5) hbx9 rfl).1
    obtain ⟨_, _, e1, _, z0, z1, z2, z3, z4, z5⟩ := cell6 o1.ints.bound lkk Hs.out
    injection e1 with e1
    injection e1 with e10 e11
    subst e10 e11
    obtain ⟨_, _, e2, _, d0⟩ := (Ints.of_own hown).at_ (j := 0) (by have := Hpl.out; omega)
    injection e2 with e2
    injection e2 with e20 e21
    subst e20 e21
    rw [← Hq.out] at d0
    simp only [Nat.zero_add] at d0
    have hk := Hk.out
    have i1 := o1.ints
    have i6 := o6.ints
    clear hbx9 hown o1 o6
    go_wp2_with fail
    go_quiet (first | (go_at_call 12; refine Calls.quiet_of (sameStmts_same m6 c6 c1 A6 (some ⟨g', o', none⟩) ss _ i6 i1 Hl.out (by omega))))
    go_wp2_with fail
    go_ret
    exact ⟨rfl, below_drewN low _⟩
end Go.Proofs.YtjclhlicginekaaGreatDoor
