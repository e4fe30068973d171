/- The law FnNumbers: exactly the numbers from 0 to MaxUint come back from their text. -/
import Derived.Test.YtdokgegnpepeeaaDoorNum
namespace Go.Proofs.YtdokgegnpepeeaaDoor
open Go Go.RowKit
def DrawnInt (w : World) (e : Ending) (w' : World) : Prop := ∃ x : Int, e = .returned (.int .i64 x) ∧ inI64 x ∧ Below w.heap.size w w'
theorem DrawFormatInt_any (A : Option Addr) (n c : Nat) (w : World) (hb : Bytes w.heap.size w A n) (hn : n ≤ 1048576) :
    Calls Tryd.prog 13 #[.slice A n c] w (DrawnInt w) := by
  go_enter Tryd.func13, Tryd.ntmps13
  go_wp2_with fail
  refine (l01New_any A n c w hb hn).mono ?_
  rintro e w1 ⟨g, rfl, hc1, hb1⟩
  go_wp2_with fail
  refine (l01Once_any _ g 3 w1 hc1).mono ?_
  rintro e w2 ⟨x, rfl, hc2, hg2⟩
  have hb2 := below_cur hb1 hc1 hg2
  cases x
  · go_wp2_with fail
    refine (l01Number_any _ g w2 hc2).mono ?_
    rintro e w3 ⟨x, rfl, hx, hc3, hg3⟩
    have hb3 := below_cur hb2 hc2 hg3
    go_wp2_with fail
    go_ret
    exact ⟨_, rfl, hx, hb3⟩
  · go_wp2_with fail
    refine (l01Below_any _ g 1000000 w2 hc2).mono ?_
    rintro e w3 ⟨x, rfl, ⟨_, hx⟩, hc3, hg3⟩
    obtain ⟨hx0, hx1⟩ := hx (by omega)
    have hb3 := below_cur hb2 hc2 hg3
    go_wp2_with fail
    refine (l01Below_any _ g 2000000 w3 hc3).mono ?_
    rintro e w4 ⟨y, rfl, ⟨_, hy⟩, hc4, hg4⟩
    obtain ⟨hy0, hy1⟩ := hy (by omega)
    have hb4 := below_cur hb3 hc3 hg4
    go_wp2_with fail
    go_ret
    exact ⟨_, rfl, wrap_in _, hb4⟩
/-- What ParseUint answers to a numeral. -/
theorem parse_itoa (x : Int) : ((0 ≤ x ∧ x ≤ 1000000000) → parseR (Lib.itoa x) = .tuple #[.int .i64 x, .bool true]) ∧ (¬ (0 ≤ x ∧ x ≤ 1000000000) → parseR (Lib.itoa x) = .tuple #[.int .i64 0, .bool false]) := by
  constructor
  · rintro ⟨h0, h1⟩
    obtain ⟨hn, hd⟩ := isNum_of h0 h1 rfl
    rw [parseR_yes hn, hd]
  · intro h
    refine parseR_no fun hn => h ?_
    have h2 := hn.2
    have h3 := hn.1
    by_cases h0 : x < 0
    · have e : Lib.itoa x = 45 :: Lib.decDigits x.natAbs := by unfold Lib.itoa; rw [if_pos h0]
      have hd := (isNum_dig hn).1 45 (by rw [e]; exact List.mem_cons_self ..)
      exact absurd hd (by decide)
    · obtain ⟨u, rfl⟩ := Int.eq_ofNat_of_zero_le (show 0 ≤ x by omega)
      rw [itoa_nat, (dec_digits u).2.1] at h3
      omega
theorem itoa_ne (x : Int) : Lib.itoa x ≠ [] := by
  unfold Lib.itoa
  split
  · simp
  · exact (dec_digits _).2.2
theorem FnNumbers_walk (A : Option Addr) (n c : Nat) (w : World) (hb : Bytes w.heap.size w A n) (hm : n ≤ 9223372036854775807) (ht : TabOk w) (he : ErrOk w) (hz : 6 ≤ w.heap.size) :
    Calls Tryd.prog 4 #[.slice A n c] w fun e w' => e = .returned (.bool true) ∧ Below w.heap.size w w' := by
  by_cases hn : 1048576 < n
  · go_enter Tryd.func4, Tryd.ntmps4
    go_wp2_with fail
    refine (big_any A n c w true (by simpa using hn) hm).mono ?_
    rintro e w1 ⟨rfl, rfl⟩
    go_wp2_with fail
    go_ret
    exact ⟨rfl, Below.refl _ _⟩
  · have hn' : n ≤ 1048576 := by omega
    go_enter Tryd.func4, Tryd.ntmps4
    go_wp2_with fail
    refine (big_any A n c w false (by simpa using hn') hm).mono ?_
    rintro e w1 ⟨rfl, rfl⟩
    go_wp2_with fail
    refine (DrawFormatInt_any A n c w hb hn').mono ?_
    rintro e w1 ⟨x, rfl, hx, hb1⟩
    clear hn hn' hm
    have hz1 := Nat.le_trans hz hb1.size
    obtain ⟨py, pn⟩ := parse_itoa x
    have cf := impl_FormatInt x hx w1 (ht.below hb1 hz)
    have hne := str_some (a := ⟨(Lib.itoa x).toArray⟩) (by simpa using itoa_ne x)
    have hsz : (⟨(Lib.itoa x).toArray⟩ : ByteArray).size ≤ 1048576 := by
      have := Lib.itoa_length_le x hx.1 hx.2
      show (Lib.itoa x).toArray.size ≤ _
      simp; omega
    have cp := impl_ParseUint (⟨(Lib.itoa x).toArray⟩ : ByteArray) hsz
    simp only at cp
    generalize (⟨(Lib.itoa x).toArray⟩ : ByteArray) = t at hne cf cp hsz
    obtain ⟨n1, n2⟩ := hne
    have Cf := Lib.hid cf
    by_cases hin : 0 ≤ x ∧ x ≤ 1000000000
    · rw [py hin] at cp
      have Cp := Lib.hid cp
      obtain ⟨i0, i1⟩ := hin
      clear cp cf py pn hx
      go_wp2_with fail
      refine Cf.out.mono ?_
      rintro e w2 ⟨rfl, hb2⟩
      go_wp2_with fail
      refine (Cp.out w2 ((ht.below hb1 hz).below hb2 hz1) ((he.below hb1 hz).below hb2 hz1) (Nat.le_trans hz1 hb2.size)).mono ?_
      rintro e w3 ⟨rfl, hb3⟩
      go_wp2_with fail
      go_ret
      exact ⟨rfl, (hb1.trans (hb2.mono hb1.size)).trans (hb3.mono (Nat.le_trans hb1.size hb2.size))⟩
    · rw [pn hin] at cp
      have Cp := Lib.hid cp
      clear cp cf py pn hx
      rcases (by omega : x < 0 ∨ 1000000000 < x) with h | h
      all_goals
        clear hin
        go_wp2_with fail
        refine Cf.out.mono ?_
        rintro e w2 ⟨rfl, hb2⟩
        go_wp2_with fail
        refine (Cp.out w2 ((ht.below hb1 hz).below hb2 hz1) ((he.below hb1 hz).below hb2 hz1) (Nat.le_trans hz1 hb2.size)).mono ?_
        rintro e w3 ⟨rfl, hb3⟩
        go_wp2_with fail
        go_ret
        exact ⟨rfl, (hb1.trans (hb2.mono hb1.size)).trans (hb3.mono (Nat.le_trans hb1.size hb2.size))⟩
end Go.Proofs.YtdokgegnpepeeaaDoor
