/- The law FnUnrolled: the walk. No condition. -/
import Derived.Test.YtnilhlbklaefeaaProg
import Derived.Test.YtnilhlbklaefeaaPgF
import Derived.Test.YtnilhlbklaefeaaUnC
import Derived.Test.YtnilhlbklaefeaaUnDi
import Derived.Test.YtnilhlbklaefeaaUnSi
import Derived.Test.YtnilhlbklaefeaaSoS
namespace Go.Proofs.Ytnilhlbklaefeaa
open Go Go.RowKit
theorem depth_range {ss : List St} (h : progI ss) : 0 ≤ depthI ss ∧ depthI ss ≤ 3 ∧ (depthI ss = 0 → unrollL ss = ss) := by
  unfold depthI
  rw [if_pos h]
  exact ⟨deepN_ge ss 0 0, deepN_le h.2 (by omega), fun e => unroll_flat h e⟩
theorem DrawnP.outs {ss : List St} (h : DrawnP ss) : 1 ≤ Go.Proofs.Ytnilhlbklaefeaa.outs (unrollL ss) := by
  have hp := h.prog
  obtain ⟨us, x, rfl⟩ := h.last
  exact outs_last hp rfl
theorem plain_at {l : List St} (h : plainL l) {k : Nat} (hk : k < l.length) {op d a b c n : Int} (e : l.getD k s0 = ⟨op, d, a, b, c, n⟩) : op ≠ 12 ∧ op ≠ 13 := by
  rw [List.getD_eq_getElem?_getD, List.getElem?_eq_getElem hk, Option.getD_some] at e
  have := h _ (List.getElem_mem hk)
  rw [e] at this
  exact this
set_option maxHeartbeats 2000000 in
set_option maxRecDepth 100000 in
theorem FnUnrolled_walk (A : Option Addr) (n c : Nat) (w : World) (hb : Bytes w.heap.size w A n) (hm : n ≤ 9223372036854775807) :
    Calls Try.prog 3 #[.slice A n c] w fun e w' => e = .returned (.bool true) ∧ Below w.heap.size w w' := by
  by_cases hn : 1048576 < n
  · go_enter Try.func3, Try.ntmps3
    go_wp2_with fail
    refine (big_any A n c w true (by simpa using hn) hm).mono ?_
    rintro e w1 ⟨rfl, rfl⟩
    go_wp2_with fail
    go_ret
    exact ⟨rfl, Below.refl _ _⟩
  · have hn' : n ≤ 1048576 := by omega
    go_enter Try.func3, Try.ntmps3
    go_wp2_with fail
    refine (big_any A n c w false (by simpa using hn') hm).mono ?_
    rintro e w1 ⟨rfl, rfl⟩
    go_wp2_with fail
    refine (DrawProgram_any A n c w hb (by omega)).mono ?_
    intro e w1 h
    obtain ⟨A1, m1, c1, ss, rfl, hl, hP, o1, low⟩ := h
    have hp := hP.prog
    have m30 : m1 ≤ 2000000 := by have := hP.len; omega
    have cU := impl_Unroll A1 m1 c1 ss
    have cS := impl_UnrolledSize A1 m1 c1 ss
    have cD := impl_LoopDepth A1 m1 c1 ss
    have cO := impl_OutputCount A1 m1 c1 ss
    unfold Post_S_bool at cU
    rw [show sizeI ss = ((unrollL ss).length : Int) from if_pos hp] at cS
    obtain ⟨hd0, hd3, hdz⟩ := depth_range hp
    have hpl := Lib.hid (unroll_plain ss)
    have hout := Lib.hid (hP.outs)
    have Hl := Lib.hid hl
    by_cases h120 : (unrollL ss).length ≤ 120
    case neg =>
      have hu : ¬ unrI ss := fun h => h120 h.2
      rw [show unrV ss = [] from if_neg hu, decide_eq_false hu] at cU
      generalize (unrollL ss).length = z at *
      have z0 : (120 : Int) < z := by omega
      clear hu hp hP hd0 hd3 hdz cD cO hl h120
      go_wp2_with fail
      refine (cU w1 o1.ints Hl.out m30).mono ?_
      rintro e w2 ⟨B, m, cb, rfl, hm2, -, hb2⟩
      simp only [List.length_nil] at hm2
      subst hm2
      replace low := low.trans (hb2.mono low.size)
      replace o1 := o1.below hb2
      go_wp2_with fail
      refine (cS w2 o1.ints Hl.out m30).mono ?_
      rintro e w3 ⟨rfl, hb3⟩
      replace low := low.trans (hb3.mono low.size)
      go_wp2_with fail
      go_ret
      exact ⟨rfl, low⟩
    have hu : unrI ss := ⟨hp, h120⟩
    rw [show unrV ss = unrollL ss from if_pos hu, decide_eq_true hu] at cU
    rw [show outsI ss = (outs (unrollL ss) : Int) from if_pos hu] at cO
    have HZ := Lib.hid hdz
    generalize hzz : unrollL ss = zs at *
    generalize depthI ss = d at *
    clear hu hp hP hdz hl hzz
    have z0 : ¬ (120 : Int) < zs.length := by omega
    go_wp2_with fail
    refine (cU w1 o1.ints Hl.out m30).mono ?_
    rintro e w2 ⟨B, m, cb, rfl, hm2, oz, hb2⟩
    replace low := low.trans (hb2.mono low.size)
    replace o1 := o1.below hb2
    have Hm := Lib.hid hm2
    rw [hm2] at cS h120 z0
    clear hm2 cU
    go_wp2_with fail
    refine (cS w2 o1.ints Hl.out m30).mono ?_
    rintro e w3 ⟨rfl, hb3⟩
    replace low := low.trans (hb3.mono low.size)
    replace o1 := o1.below hb3
    replace oz := oz.below hb3
    clear hb2 hb3 cS
    go_wp2_with fail
    go_loopw [7] (fun i wr => ∃ j : Nat, j ≤ m ∧ i = .int .i64 j ∧ Hid (wr = w3)) (fun i _ => m - (intOf i).toNat)
    case atStart => exact ⟨0, Nat.zero_le _, rfl, Lib.hid rfl⟩
    case round =>
      obtain ⟨j, hj, rfl, hw⟩ := hrel
      obtain rfl : w3 = wr := hw.out.symm
      clear hw
      by_cases hlt : j < m
      · rcases hs : zs.getD j s0 with ⟨op, dd, a, b, c2, nn⟩
        have hlk : j < zs.length := by rw [Hm.out]; exact hlt
        obtain ⟨g', o', rfl, hg', q0, q1, q2, q3, q4, q5⟩ := cell6 oz.ints.bound hlk hs
        obtain ⟨h12, h13⟩ := plain_at hpl.out hlk hs
        have k0 : (0 : Int) ≤ j := by omega
        have k1 : (j : Int) < m := by omega
        have t1 : (op == 12) = false := beq_eq_false_iff_ne.2 h12
        have t2 : (op == 13) = false := beq_eq_false_iff_ne.2 h13
        clear oz o1 hs hlk cD cO q1 q2 q3 q4 q5 h12 h13
        go_wp2_with fail
        go_roundw
        case rel => exact ⟨j + 1, by omega, by go_num, Lib.hid (by trivial)⟩
        case measure => simp [intOf]; omega
      · obtain rfl : j = m := by omega
        go_wp2_with fail
        refine (cD w3 o1.ints Hl.out m30).mono ?_
        rintro e w4 ⟨rfl, hb4⟩
        replace low := low.trans (hb4.mono low.size)
        replace o1 := o1.below hb4
        replace oz := oz.below hb4
        have ho := hout.out
        generalize hoo : outs zs = oo at *
        have ho1 : (1 : Int) ≤ oo := by omega
        clear hb4 cD hoo
        rcases Int.lt_or_eq_of_le hd0 with hd | rfl
        · go_wp2_with fail
          refine (cO w4 o1.ints Hl.out m30).mono ?_
          rintro e w5 ⟨rfl, hb5⟩
          replace low := low.trans (hb5.mono low.size)
          clear hb5 cO
          go_wp2_with fail
          go_ret
          exact ⟨rfl, low⟩
        · have hsame := HZ.out rfl
          have hss : Ints w4 B (flat ss) := by rw [← hsame]; exact oz.ints
          obtain rfl : m1 = j := by rw [← Hl.out, ← hsame, Hm.out]
          go_wp2_with fail
          refine (sameStmts_same m1 cb c1 B A1 ss w4 hss o1.ints Hl.out (by omega)).mono ?_
          rintro e w5 ⟨rfl, q, rfl⟩
          have hb5 := below_drewN (Below.refl w4.heap.size w4) q
          replace low := low.trans (hb5.mono low.size)
          replace o1 := o1.below hb5
          go_wp2_with fail
          refine (cO _ o1.ints Hl.out m30).mono ?_
          rintro e w6 ⟨rfl, hb6⟩
          replace low := low.trans (hb6.mono low.size)
          clear hb6 cO
          go_wp2_with fail
          go_ret
          exact ⟨rfl, low⟩
end Go.Proofs.Ytnilhlbklaefeaa
