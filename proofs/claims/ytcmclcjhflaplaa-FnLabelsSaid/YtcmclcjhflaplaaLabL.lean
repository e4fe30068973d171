/- The law FnLabels: the labels of a wire differ, also in their permute bits, and denote their values. -/
import Derived.Test.YtcmclcjhflaplaaProg
import Derived.Test.YtcmclcjhflaplaaTapeD
import Derived.Test.YtcmclcjhflaplaaFieldW
import Derived.Test.YtcmclcjhflaplaaLab
namespace Go.Proofs.Ytcmclcjhflaplaa
open Go Go.RowKit
theorem impl_DeltaOf_is (s a d b : Int) (hd : dltI s a = d) (hb : dltA s a = b) (w : World) :
    Calls Try.prog 12 #[.agg #[.int .i64 s, .int .i64 a]] w fun e w' => e = .returned (.tuple #[.int .i64 d, .agg #[.int .i64 s, .int .i64 b]]) ∧ Below w.heap.size w w' := by
  subst hd hb; exact impl_DeltaOf s a w
theorem impl_ValueOf_is (z d l r : Int) (h : lvI z d l = r) (w : World) :
    Calls Try.prog 15 #[.int .i64 z, .int .i64 d, .int .i64 l] w fun e w' => e = .returned (.int .i64 r) ∧ Below w.heap.size w w' := by subst h; exact impl_ValueOf z d l w
set_option maxRecDepth 100000 in
theorem FnLabels_walk (A : Option Addr) (n c : Nat) (w : World) (hb : Bytes w.heap.size w A n) (hm : n ≤ 9223372036854775807) :
    Calls Try.prog 3 #[.slice A n c] w fun e w' => e = .returned (.bool true) ∧ Below w.heap.size w w' := by
  by_cases hn : 1048576 < n
  · go_enter Try.func3, Try.ntmps3
    go_wp2_with fail
    refine (big_any A n c w true (by simpa using hn) hm).mono ?_
    rintro e w1 ⟨rfl, rfl⟩
    go_wp2_with fail
    go_ret
    exact ⟨rfl, Below.refl _ _⟩
  · have hn' : n ≤ 1048576 := by omega
    go_enter Try.func3, Try.ntmps3
    go_wp2_with fail
    refine (big_any A n c w false (by simpa using hn') hm).mono ?_
    rintro e w1 ⟨rfl, rfl⟩
    go_wp2_with fail
    refine (DrawTape_any A n c w hb (by omega)).mono ?_
    rintro e w1 ⟨s, a, rfl, hs, ha0, ha1, hb1⟩
    have hb1' := hb1.alloc hb1.size (.cells #[.int .i64 s, .int .i64 a] 25)
    have hbA := hb.keep fun k hk => hb1'.block k hk
    have h3 := heap_alloc_new w1 (.cells #[.int .i64 s, .int .i64 a] 25)
    go_wp2_with fail
    refine (DrawPlaces_any A n c _ (fun h => by obtain ⟨b, o, e, hl, hc⟩ := hbA h; exact ⟨b, o, e, Nat.lt_of_lt_of_le hl hb1'.size, hc⟩) (by omega)).mono ?_
    rintro e w2 ⟨g, cap, zs, rfl, hl, hpl, hown, hb2⟩
    have h3' := box2_below h3 hb2
    have hb3 := hb1'.trans (hb2.mono hb1'.size)
    have hi := Ints.of_own hown
    obtain ⟨b0, o0, e0, hl0, c0⟩ := hi.at_ (j := 0) (by omega)
    obtain ⟨b1, o1, e1, hl1, c1⟩ := hi.at_ (j := 1) (by omega)
    injection e0 with e0; injection e0 with e00 e01
    injection e1 with e1; injection e1 with e10 e11
    subst e00 e01 e10 e11
    obtain ⟨x0, x1⟩ := hpl.at_ (j := 0) (by omega)
    obtain ⟨y0, y1⟩ := hpl.at_ (j := 1) (by omega)
    generalize zs.getD 0 0 = qa at c0 x0 x1
    generalize zs.getD 1 0 = qb at c1 y0 y1
    simp only [Nat.zero_add] at c0 c1
    obtain ⟨t0, t1, _, _⟩ := box2 h3'
    generalize w1.heap.size = g3 at h3' t0 t1 ⊢
    have hok : dOk s a := ⟨⟨hs, ha0, by omega⟩, by omega⟩
    obtain ⟨dl, dm⟩ := dlt_lbl hok
    obtain ⟨d, hd⟩ : ∃ d, dltI s a = d := ⟨_, rfl⟩
    have hda : dltA s a = a + 1 := if_pos hok
    rw [hd] at dl dm
    have Hd := Lib.hid (And.intro hd hda)
    obtain ⟨z, hz⟩ : ∃ z, qa * 6 % 65536 = z := ⟨_, rfl⟩
    have zl : isLbl z := by unfold isLbl; omega
    have q0 : lblI z d 0 = z := by unfold lblI; rw [if_pos ⟨zl, dl, by unfold isBit; omega⟩, if_neg (by omega)]
    obtain ⟨b, hb4⟩ : ∃ b, lblI z d 1 = b := ⟨_, rfl⟩
    have bl : isLbl b := by rw [← hb4]; exact lbl_lbl zl dl (by unfold isBit; omega)
    have bm : b % 2 = (z % 2 + 1) % 2 := by rw [← hb4]; exact lbl_bit zl dl dm (by unfold isBit; omega)
    have v0 : lvI z d z = 0 := by have := lv_lbl zl dl dm (v := 0) (by unfold isBit; omega); rwa [q0] at this
    have v1 : lvI z d b = 1 := by have := lv_lbl zl dl dm (v := 1) (by unfold isBit; omega); rwa [hb4] at this
    have hh := hsh_lbl zl (n := qb) (by omega)
    obtain ⟨h, hhe⟩ : ∃ h, hshI z qb = h := ⟨_, rfl⟩
    rw [hhe] at hh
    have HH := Lib.hid (And.intro hhe (decide_eq_true hh))
    have Hv := Lib.hid (And.intro v0 v1)
    have Hq := Lib.hid (And.intro q0 hb4)
    have Hl := Lib.hid (decide_eq_true dl)
    have hw1 : wrap64 (qa * 6) = qa * 6 := by unfold wrap64; omega
    have hw2 : wrap64 (z + b) = z + b := by unfold isLbl at zl bl; unfold wrap64; omega
    have ne1 : (z != b) = true := by simp; omega
    have m1 : ((z + b).tmod 2 == 1) = true := by unfold isLbl at zl bl; rw [Int.tmod_eq_emod_of_nonneg (by omega)]; simp; omega
    have m2 : (d.tmod 2 == 1) = true := by unfold isLbl at dl; rw [Int.tmod_eq_emod_of_nonneg (by omega)]; simp; omega
    have m3 : (qa * 6).tmod 65536 = z := by rw [Int.tmod_eq_emod_of_nonneg (by omega)]; exact hz
    clear hown hi hpl hl hb hbA hb1 hb2 hm hn hn' hb1' h3 hs hok hd hda hz zl q0 bl bm v0 v1 hh hhe dl dm hb4 hl0 hl1
    go_wp2_with fail
    refine (impl_DeltaOf_is s a d (a + 1) Hd.out.1 Hd.out.2 w2).mono ?_
    rintro e w3 ⟨rfl, hb4⟩
    have k3 := box2_below h3' hb4
    have c0' := cell_on c0 hb4
    have c1' := cell_on c1 hb4
    have hb5 := hb3.trans (hb4.mono hb3.size)
    clear h3' c0 c1 t0 t1 hb3 hb4
    have al : Below w3.heap.size w3 (w3.alloc (.cells #[.int .i64 s, .int .i64 (a + 1)] 25)) := (Below.refl _ _).alloc (Nat.le_refl _) _
    have n4 := heap_alloc_new w3 (.cells #[.int .i64 s, .int .i64 (a + 1)] 25)
    have k4 := box2_below k3 al
    have c0 := cell_on c0' al
    have c1 := cell_on c1' al
    have hb6 := hb5.trans (al.mono hb5.size)
    clear al k3 c0' c1' hb5
    go_wp2_with fail
    generalize w3.alloc (.cells #[.int .i64 s, .int .i64 (a + 1)] 25) = w4 at *
    generalize w3.heap.size = g4 at *
    refine (impl_LabelFor_is z d 0 z Hq.out.1 w4).mono ?_
    rintro e w5 ⟨rfl, hb5⟩
    have m5 := box2_below n4 hb5
    have k5 := box2_below k4 hb5
    have c5 := cell_on c1 hb5
    have l5 := hb6.trans (hb5.mono hb6.size)
    clear n4 k4 c0 c1 hb6 hb5
    go_wp2_with fail
    refine (impl_LabelFor_is z d 1 b Hq.out.2 w5).mono ?_
    rintro e w6 ⟨rfl, hb5⟩
    have n4 := box2_below m5 hb5
    have k4 := box2_below k5 hb5
    have c1 := cell_on c5 hb5
    have l6 := l5.trans (hb5.mono l5.size)
    clear m5 k5 c5 l5 hb5
    go_wp2_with fail
    refine (impl_IsLabel_is d true Hl.out w6).mono ?_
    rintro e w7 ⟨rfl, rfl⟩
    go_wp2_with fail
    refine (impl_ValueOf_is z d z 0 Hv.out.1 w6).mono ?_
    rintro e w7 ⟨rfl, hb5⟩
    have m5 := box2_below n4 hb5
    have k5 := box2_below k4 hb5
    have c5 := cell_on c1 hb5
    have l5 := l6.trans (hb5.mono l6.size)
    clear n4 k4 c1 l6 hb5
    go_wp2_with fail
    refine (impl_ValueOf_is z d b 1 Hv.out.2 w7).mono ?_
    rintro e w8 ⟨rfl, hb5⟩
    have n4 := box2_below m5 hb5
    have k4 := box2_below k5 hb5
    have c1 := cell_on c5 hb5
    have l6 := l5.trans (hb5.mono l5.size)
    clear m5 k5 c5 l5 hb5
    obtain ⟨u0, u1, _, _⟩ := box2 n4
    obtain ⟨v0, v1, _, _⟩ := box2 k4
    go_wp2_with fail
    refine (impl_HashLabel_is z qb h HH.out.1 w8).mono ?_
    rintro e w9 ⟨rfl, rfl⟩
    go_wp2_with fail
    refine (impl_IsLabel_is h true HH.out.2 w8).mono ?_
    rintro e w9 ⟨rfl, rfl⟩
    go_wp2_with fail
    go_ret
    exact ⟨rfl, l6⟩
end Go.Proofs.Ytcmclcjhflaplaa
