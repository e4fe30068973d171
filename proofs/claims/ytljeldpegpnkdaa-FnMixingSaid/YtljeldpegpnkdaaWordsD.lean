/- The draws of words, and the laws Mixing and Xor. -/
import Derived.Test.YtljeldpegpnkdaaProg
import Derived.Test.YtljeldpegpnkdaaWords
import Derived.Test.YtljeldpegpnkdaaApp
namespace Go.Proofs.Ytljeldpegpnkdaa
open Go Go.RowKit
theorem l02Word_any (B g : Nat) (w : World) (hc : Cur 39 B w g) :
    Calls Try.prog 22 #[.pointer (some ⟨g, 0, none⟩)] w (Drawn 39 B g isWord w) := by
  go_enter Try.func22, Try.ntmps22
  go_wp2_with fail
  refine (l01Below_any B g 4 w hc).mono ?_
  rintro e w1 ⟨x, rfl, ⟨_, hx⟩, hc1, hg1⟩
  obtain ⟨hx0, hx1⟩ := hx (by omega)
  clear hx
  by_cases h0 : x = 0
  · subst h0
    go_wp2_with fail
    refine (l01PickInt_any B g w1.heap.size 0 5 5 isWord _ (hc1.alloc _) (by omega) (by omega) (by have := hc1.lt; omega) (by simp)
      (cells_new w1 [0, 1, 4294967295, 2147483648, 65536] _ isWord (fun x hx => by simp at hx; unfold isWord; omega))).mono ?_
    rintro e w2 ⟨y, rfl, hy, hc2, hg2⟩
    go_wp2_with fail
    go_ret
    exact ⟨_, rfl, hy, hc2, (hg1.trans (World.grownBy_alloc w1 _ _)).trans hg2⟩
  · have e0 : (x == 0) = false := beq_eq_false_iff_ne.2 h0
    by_cases h1 : x = 1
    · subst h1
      go_wp2_with fail
      refine (l01Below_any B g 200 w1 hc1).mono ?_
      rintro e w2 ⟨y, rfl, ⟨_, hy⟩, hc2, hg2⟩
      obtain ⟨hy0, hy1⟩ := hy (by omega)
      go_wp2_with fail
      go_ret
      exact ⟨_, rfl, by unfold isWord; omega, hc2, hg1.trans hg2⟩
    · have e1 : (x == 1) = false := beq_eq_false_iff_ne.2 h1
      go_wp2_with fail
      refine (l01Below_any B g 65536 w1 hc1).mono ?_
      rintro e w2 ⟨y, rfl, ⟨_, hy⟩, hc2, hg2⟩
      obtain ⟨hy0, hy1⟩ := hy (by omega)
      clear hy
      go_wp2_with fail
      refine (l01Below_any B g 65536 w2 hc2).mono ?_
      rintro e w3 ⟨z, rfl, ⟨_, hz⟩, hc3, hg3⟩
      obtain ⟨hz0, hz1⟩ := hz (by omega)
      clear hz
      go_wp2_with fail
      go_ret
      exact ⟨_, rfl, by unfold isWord; omega, hc3, (hg1.trans hg2).trans hg3⟩
theorem DrawWord_any (A : Option Addr) (n c : Nat) (w : World) (hb : Bytes w.heap.size w A n) (hn : n ≤ 2000000) :
    Calls Try.prog 11 #[.slice A n c] w fun e w' => ∃ x : Int, e = .returned (.int .i64 x) ∧ isWord x ∧ Below w.heap.size w w' := by
  go_enter Try.func11, Try.ntmps11
  go_wp2_with fail
  refine (l01New_any A n c w hb hn).mono ?_
  rintro e w1 ⟨g, rfl, hc1, hb1⟩
  go_wp2_with fail
  refine (l02Word_any _ g w1 hc1).mono ?_
  rintro e w2 ⟨x, rfl, hx, hc2, hg2⟩
  have hb2 := below_cur hb1 hc1 hg2
  go_wp2_with fail
  go_ret
  exact ⟨x, rfl, hx, hb2⟩
theorem FnXor_walk (A : Option Addr) (n c : Nat) (w : World) (hb : Bytes w.heap.size w A n) (hm : n ≤ 9223372036854775807) :
    Calls Try.prog 4 #[.slice A n c] w fun e w' => e = .returned (.bool true) ∧ Below w.heap.size w w' := by
  by_cases hn : 1048576 < n
  · go_enter Try.func4, Try.ntmps4
    go_wp2_with fail
    refine (big_any A n c w true (by simpa using hn) hm).mono ?_
    rintro e w1 ⟨rfl, rfl⟩
    go_wp2_with fail
    go_ret
    exact ⟨rfl, Below.refl _ _⟩
  · have hn' : n ≤ 1048576 := by omega
    go_enter Try.func4, Try.ntmps4
    go_wp2_with fail
    refine (big_any A n c w false (by simpa using hn') hm).mono ?_
    rintro e w1 ⟨rfl, rfl⟩
    go_wp2_with fail
    refine (DrawWord_any A n c w hb (by omega)).mono ?_
    rintro e w1 ⟨a, rfl, ha, hb1⟩
    clear hn hm
    have hbA := hb.keep fun k hk => (hb1.alloc hb1.size (.cells #[.int .u8 3] 5)).block k hk
    go_wp2_with (first | (at_builtin; refine app_bytes elemU8a rfl _ _ rfl w1.heap.size _ 1 [.int .u8 3] rfl (own_one w1 3 _) (by omega) (byte_one (by omega) (by omega)) w.heap.size A n c rfl hbA (by unfold maxLen; omega) (by omega) (by simp) ?_))
    intro g cap w2 hby hgr
    have hb2 := below_app hb1 hb1.size hgr
    have hs2 := hb2.size
    clear hgr hbA hb
    go_wp2_with fail
    refine (DrawWord_any _ (1 + n) cap w2 hby (by omega)).mono ?_
    rintro e w3 ⟨b, rfl, hb', hb3⟩
    have hb4 : Below w.heap.size w w3 := hb2.trans (hb3.mono hs2)
    clear hb1 hb2 hb3 hby
    obtain ⟨r, p, q, hr, hr1, hr2, hp, hq, hlow, hp2, hq2⟩ : ∃ r p q, xorI a b = r ∧ xorI r b = a ∧ xorI b a = r ∧ lowI a = p ∧ lowI b = q ∧ lowI r = (p + q) % 2 ∧ (p = 0 ∨ p = 1) ∧ (q = 0 ∨ q = 1) :=
      ⟨_, _, _, rfl, xorI_back ha hb', xorI_comm b a, rfl, rfl, by unfold lowI; rw [if_pos (xorI_word a b), if_pos ha, if_pos hb', xorI_low ha hb'],
        by unfold lowI; rw [if_pos ha]; omega, by unfold lowI; rw [if_pos hb']; omega⟩
    have Hp := Lib.hid hp
    have Hq := Lib.hid hq
    clear hp hq
    have Hr := Lib.hid hr
    have Hr1 := Lib.hid hr1
    have Hr2 := Lib.hid hr2
    have Hlow := Lib.hid hlow
    clear hr hr1 hr2 hlow
    go_wp2_with fail
    refine (impl_XorWords_is a b r Hr.out w3).mono ?_
    rintro e w4 ⟨rfl, rfl⟩
    go_wp2_with fail
    refine (impl_XorWords_is r b a Hr1.out w3).mono ?_
    rintro e w4 ⟨rfl, rfl⟩
    go_wp2_with fail
    refine (impl_XorWords_is b a r Hr2.out w3).mono ?_
    rintro e w4 ⟨rfl, rfl⟩
    rcases hp2 with rfl | rfl <;> rcases hq2 with rfl | rfl
    all_goals
      go_wp2_with fail
      refine (impl_LowBit_is r _ Hlow.out w3).mono ?_
      rintro e w4 ⟨rfl, rfl⟩
      go_wp2_with fail
      refine (impl_LowBit_is a _ Hp.out w3).mono ?_
      rintro e w4 ⟨rfl, rfl⟩
      go_wp2_with fail
      refine (impl_LowBit_is b _ Hq.out w3).mono ?_
      rintro e w4 ⟨rfl, rfl⟩
      go_wp2_with fail
      refine (impl_XorWords_is 5 3 6 (by decide) w3).mono ?_
      rintro e w4 ⟨rfl, rfl⟩
      go_wp2_with fail
      go_ret
      exact ⟨rfl, hb4⟩
theorem FnMixing_walk (A : Option Addr) (n c : Nat) (w : World) (hb : Bytes w.heap.size w A n) (hm : n ≤ 9223372036854775807) :
    Calls Try.prog 3 #[.slice A n c] w fun e w' => e = .returned (.bool true) ∧ Below w.heap.size w w' := by
  by_cases hn : 1048576 < n
  · go_enter Try.func3, Try.ntmps3
    go_wp2_with fail
    refine (big_any A n c w true (by simpa using hn) hm).mono ?_
    rintro e w1 ⟨rfl, rfl⟩
    go_wp2_with fail
    go_ret
    exact ⟨rfl, Below.refl _ _⟩
  · have hn' : n ≤ 1048576 := by omega
    go_enter Try.func3, Try.ntmps3
    go_wp2_with fail
    refine (big_any A n c w false (by simpa using hn') hm).mono ?_
    rintro e w1 ⟨rfl, rfl⟩
    go_wp2_with fail
    refine (DrawWord_any A n c w hb (by omega)).mono ?_
    rintro e w1 ⟨a, rfl, ha, hb1⟩
    clear hn hm
    have hbA := hb.keep fun k hk => (hb1.alloc hb1.size (.cells #[.int .u8 3] 5)).block k hk
    go_wp2_with (first | (at_builtin; refine app_bytes elemU8a rfl _ _ rfl w1.heap.size _ 1 [.int .u8 3] rfl (own_one w1 3 _) (by omega) (byte_one (by omega) (by omega)) w.heap.size A n c rfl hbA (by unfold maxLen; omega) (by omega) (by simp) ?_))
    intro g cap w2 hby hgr
    have hb2 := below_app hb1 hb1.size hgr
    have hs2 := hb2.size
    clear hgr hbA
    go_wp2_with fail
    refine (DrawWord_any _ (1 + n) cap w2 hby (by omega)).mono ?_
    rintro e w3 ⟨b, rfl, hb', hb3⟩
    have hb4 : Below w.heap.size w w3 := hb2.trans (hb3.mono hs2)
    clear hb1 hb2 hb3 hby hs2
    have hbB := hb.keep fun k hk => (hb4.alloc hb4.size (.cells #[.int .u8 9] 5)).block k hk
    go_wp2_with (first | (at_builtin; refine app_bytes elemU8a rfl _ _ rfl w3.heap.size _ 1 [.int .u8 9] rfl (own_one w3 9 _) (by omega) (byte_one (by omega) (by omega)) w.heap.size A n c rfl hbB (by unfold maxLen; omega) (by omega) (by simp) ?_))
    intro g2 cap2 w5 hby2 hgr2
    have hb5 := below_app hb4 hb4.size hgr2
    have hs5 := hb5.size
    clear hgr2 hbB hb
    go_wp2_with fail
    refine (DrawWord_any _ (1 + n) cap2 w5 hby2 (by omega)).mono ?_
    rintro e w6 ⟨k, rfl, hk, hb6⟩
    have hb7 : Below w.heap.size w w6 := hb5.trans (hb6.mono hs5)
    clear hb4 hb5 hb6 hby2 hs5 hn'
    obtain ⟨x, y, hx, hy, hxw, hyw⟩ : ∃ x y, mixI a = x ∧ keyedI k 5 a = y ∧ isWord x ∧ isWord y := ⟨_, _, rfl, rfl, mixI_word _, keyedI_word _ _ _⟩
    obtain ⟨u, v, hu, hv, huv⟩ : ∃ u v, mixI b = u ∧ keyedI k 5 b = v ∧ ((a = b ∧ x = u ∧ y = v) ∨ (a ≠ b ∧ x ≠ u ∧ y ≠ v)) := by
      refine ⟨_, _, rfl, rfl, ?_⟩
      by_cases e : a = b
      · subst e; exact .inl ⟨rfl, hx.symm, hy.symm⟩
      · refine .inr ⟨e, fun h => e (mixI_inj ha hb' (hx.trans h)), fun h => e (keyedI_inj hk (by decide) ha hb' (hy.trans h))⟩
    have Hx := Lib.hid hx
    have Hy := Lib.hid hy
    have Hu := Lib.hid hu
    have Hv := Lib.hid hv
    clear hx hy hu hv
    go_wp2_with fail
    refine (impl_Mix_is a x Hx.out w6).mono ?_
    rintro e w4 ⟨rfl, rfl⟩
    go_wp2_with fail
    refine (impl_Keyed_is k 5 a y Hy.out w6).mono ?_
    rintro e w4 ⟨rfl, rfl⟩
    go_wp2_with fail
    refine (impl_IsWord_yes x hxw w6).mono ?_
    rintro e w4 ⟨rfl, rfl⟩
    go_wp2_with fail
    refine (impl_IsWord_yes y hyw w6).mono ?_
    rintro e w4 ⟨rfl, rfl⟩
    rcases huv with ⟨rfl, rfl, rfl⟩ | ⟨h1, h2, h3⟩
    · go_wp2_with fail
      refine (impl_Mix_is _ x Hu.out w6).mono ?_
      rintro e w4 ⟨rfl, rfl⟩
      go_wp2_with fail
      refine (impl_Keyed_is k 5 _ y Hv.out w6).mono ?_
      rintro e w4 ⟨rfl, rfl⟩
      go_wp2_with fail
      refine (impl_Mix_is 0 0 mixI_zero w6).mono ?_
      rintro e w4 ⟨rfl, rfl⟩
      go_wp2_with fail
      refine (impl_Mix_is 1 824515495 mixI_one w6).mono ?_
      rintro e w4 ⟨rfl, rfl⟩
      go_wp2_with fail
      go_ret
      exact ⟨rfl, hb7⟩
    · have e1 : (a == b) = false := beq_eq_false_iff_ne.2 h1
      have e2 : (x == u) = false := beq_eq_false_iff_ne.2 h2
      have e3 : (y == v) = false := beq_eq_false_iff_ne.2 h3
      go_wp2_with fail
      refine (impl_Mix_is b u Hu.out w6).mono ?_
      rintro e w4 ⟨rfl, rfl⟩
      go_wp2_with fail
      refine (impl_Keyed_is k 5 b v Hv.out w6).mono ?_
      rintro e w4 ⟨rfl, rfl⟩
      go_wp2_with fail
      refine (impl_Mix_is 0 0 mixI_zero w6).mono ?_
      rintro e w4 ⟨rfl, rfl⟩
      go_wp2_with fail
      refine (impl_Mix_is 1 824515495 mixI_one w6).mono ?_
      rintro e w4 ⟨rfl, rfl⟩
      go_wp2_with fail
      go_ret
      exact ⟨rfl, hb7⟩
end Go.Proofs.Ytljeldpegpnkdaa
