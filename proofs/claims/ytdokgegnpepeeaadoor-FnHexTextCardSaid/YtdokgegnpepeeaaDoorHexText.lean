/- The law FnHexText: a text comes back from its hexadecimal form. -/
import Derived.Test.YtdokgegnpepeeaaDoorHexD
import Derived.Test.YtdokgegnpepeeaaDoorDrawT
import Derived.Test.YtdokgegnpepeeaaDoorNum
namespace Go.Proofs.YtdokgegnpepeeaaDoor
open Go Go.RowKit
theorem hexL_length (l : List UInt8) : (hexL l).length = 2 * l.length := by
  induction l with
  | nil => rfl
  | cons c r ih => simp only [hexL, List.flatMap_cons, List.length_append, List.length_cons, List.length_nil] at ih ⊢; omega
theorem hexL_get (l : List UInt8) : ∀ j, j < l.length → (hexL l).getD (2 * j) 0 = figB ((l.getD j 0).toNat / 16) ∧ (hexL l).getD (2 * j + 1) 0 = figB ((l.getD j 0).toNat % 16) := by
  induction l with
  | nil => intro j hj; simp at hj
  | cons c r ih =>
    intro j hj
    have e : hexL (c :: r) = figB (c.toNat / 16) :: figB (c.toNat % 16) :: hexL r := rfl
    cases j with
    | zero => exact ⟨rfl, rfl⟩
    | succ j =>
      have h := ih j (by simp at hj; omega)
      rw [e, show 2 * (j + 1) = 2 * j + 1 + 1 by omega]
      exact h
theorem hv_fig : ∀ d : Fin 16, hvI ((figB d.val).toNat : Int) = (d.val : Int) := by decide
theorem hv_fig' (d : Nat) (h : d < 16) : hvI ((figB d).toNat : Int) = (d : Int) := hv_fig ⟨d, h⟩
theorem pair_fig (c : UInt8) : pairB (figB (c.toNat / 16)) (figB (c.toNat % 16)) = c := by
  have hc := c.toNat_lt
  unfold pairB
  rw [hv_fig' _ (by omega), hv_fig' _ (by omega)]
  have e : (16 * ((c.toNat / 16 : Nat) : Int) + ((c.toNat % 16 : Nat) : Int)).toNat = c.toNat := by omega
  rw [e]
  exact UInt8.ofNat_toNat
theorem dec_hex (l : List UInt8) : decL (hexL l) l.length = l := by
  apply List.ext_getElem?
  intro j
  unfold decL
  rcases Nat.lt_or_ge j l.length with h | h
  · obtain ⟨h1, h2⟩ := hexL_get l j h
    simp only [List.getElem?_map, List.getElem?_range h, Option.map_some]
    rw [h1, h2, pair_fig, List.getD_eq_getElem?_getD, List.getElem?_eq_getElem h]
    rfl
  · rw [List.getElem?_eq_none (by simpa using h), List.getElem?_eq_none h]
theorem decR_hex (l : List UInt8) (h : l.length ≤ 20000) : decR (hexL l) = .tuple #[.string ⟨l.toArray⟩, .bool true] := by
  have hl := hexL_length l
  have e : (hexL l).length / 2 = l.length := by omega
  rw [← decR_yes (by omega) (by omega) (by
    intro j hj
    rw [e] at hj
    obtain ⟨h1, h2⟩ := hexL_get l j hj
    have := (l.getD j 0).toNat_lt
    unfold goodP
    rw [h1, h2, hv_fig' _ (by omega), hv_fig' _ (by omega)]
    omega), e, dec_hex]
def DrawnS (P : ByteArray → Prop) (w : World) (e : Ending) (w' : World) : Prop := ∃ s : ByteArray, e = .returned (.string s) ∧ P s ∧ Below w.heap.size w w'
theorem DrawEncodeHex_any (A : Option Addr) (n c : Nat) (w : World) (hb : Bytes w.heap.size w A n) (hn : n ≤ 1048576) :
    Calls Tryd.prog 9 #[.slice A n c] w (DrawnS (fun s => s.size ≤ 30000) w) := by
  go_enter Tryd.func9, Tryd.ntmps9
  go_wp2_with fail
  refine (l01New_any A n c w hb hn).mono ?_
  rintro e w1 ⟨g, rfl, hc1, hb1⟩
  go_wp2_with fail
  refine (l01Once_any _ g 60 w1 hc1).mono ?_
  rintro e w2 ⟨x, rfl, hc2, hg2⟩
  have hb2 := below_cur hb1 hc1 hg2
  cases x
  · go_wp2_with fail
    refine (l01Below_any _ g 30 w2 hc2).mono ?_
    rintro e w3 ⟨x, rfl, ⟨_, hx⟩, hc3, hg3⟩
    obtain ⟨hx0, hx1⟩ := hx (by omega)
    have hb3 := below_cur hb2 hc2 hg3
    go_wp2_with fail
    refine (l01Text_any _ g x hx0 (by omega) w3 hc3).mono ?_
    rintro e w4 ⟨s, rfl, hs, hc4, hg4⟩
    have hb4 := below_cur hb3 hc3 hg4
    go_wp2_with fail
    go_ret
    exact ⟨_, rfl, by omega, hb4⟩
  · go_wp2_with fail
    refine (l01Below_any _ g 2 w2 hc2).mono ?_
    rintro e w3 ⟨x, rfl, ⟨_, hx⟩, hc3, hg3⟩
    obtain ⟨hx0, hx1⟩ := hx (by omega)
    have hb3 := below_cur hb2 hc2 hg3
    go_wp2_with fail
    refine (l01Long_any (20000 + x) (by omega) (by omega) 200 w3).mono ?_
    rintro e w4 ⟨rfl, hb4⟩
    go_wp2_with fail
    go_ret
    refine ⟨_, rfl, ?_, hb3.trans (hb4.mono hb3.size)⟩
    show (List.replicate _ _).toArray.size ≤ _
    simp; omega
theorem FnHexText_walk (A : Option Addr) (n c : Nat) (w : World) (hb : Bytes w.heap.size w A n) (hm : n ≤ 9223372036854775807) (ht : TabOk w) (hz : 6 ≤ w.heap.size) :
    Calls Tryd.prog 3 #[.slice A n c] w fun e w' => e = .returned (.bool true) ∧ Below w.heap.size w w' := by
  by_cases hn : 1048576 < n
  · go_enter Tryd.func3, Tryd.ntmps3
    go_wp2_with fail
    refine (big_any A n c w true (by simpa using hn) hm).mono ?_
    rintro e w1 ⟨rfl, rfl⟩
    go_wp2_with fail
    go_ret
    exact ⟨rfl, Below.refl _ _⟩
  · have hn' : n ≤ 1048576 := by omega
    go_enter Tryd.func3, Tryd.ntmps3
    go_wp2_with fail
    refine (big_any A n c w false (by simpa using hn') hm).mono ?_
    rintro e w1 ⟨rfl, rfl⟩
    go_wp2_with fail
    refine (DrawEncodeHex_any A n c w hb hn').mono ?_
    rintro e w1 ⟨s, rfl, hs, hb1⟩
    have hz1 := Nat.le_trans hz hb1.size
    clear hn hn' hm
    by_cases hbig : 20000 < s.size
    · have hd : decide ((20000 : Int) < (s.size : Int)) = true := by simp; omega
      have cf := impl_FormatInt 10 (by unfold inI64; omega)
      rw [show Lib.itoa 10 = [49, 48] by decide +kernel] at cf
      have Cf := Lib.hid cf
      clear cf
      go_wp2_with fail
      refine (impl_EncodeHex_no s w1 hbig (by omega)).mono ?_
      rintro e w2 ⟨rfl, rfl⟩
      go_wp2_with fail
      refine (Cf.out w1 (ht.below hb1 hz)).mono ?_
      rintro e w2 ⟨rfl, hb2⟩
      go_wp2_with fail
      go_ret
      exact ⟨rfl, hb1.trans (hb2.mono hb1.size)⟩
    · have hd : decide ((20000 : Int) < (s.size : Int)) = false := by simp; omega
      have hsz : s.size ≤ 20000 := by omega
      have ce := impl_EncodeHex s w1 hsz
      have hl : s.data.toList.length = s.size := by simp
      have hlen : (⟨(hexL s.data.toList).toArray⟩ : ByteArray).size = 2 * s.size := by
        show (hexL s.data.toList).toArray.size = _
        rw [List.size_toArray, hexL_length, hl]
      have cd := fun W => impl_DecodeHex_any ⟨(hexL s.data.toList).toArray⟩ W (by rw [hlen]; omega)
      have hdec : decR (hexL s.data.toList) = .tuple #[.string s, .bool true] := by
        rw [decR_hex _ (by omega)]
      simp only [hdec] at cd
      generalize (⟨(hexL s.data.toList).toArray⟩ : ByteArray) = t at ce cd hlen
      have Ce := Lib.hid ce
      have Cd := Lib.hid cd
      clear ce cd hdec hl
      have hle : ((t.size : Int) == 2 * (s.size : Int)) = true := by simp; omega
      have Hlen := Lib.hid hlen
      clear hlen
      go_wp2_with fail
      refine Ce.out.mono ?_
      rintro e w2 ⟨rfl, hb2⟩
      go_wp2_with fail
      refine (Cd.out w2).mono ?_
      rintro e w3 ⟨rfl, hb3⟩
      go_wp2_with fail
      go_ret
      exact ⟨rfl, (hb1.trans (hb2.mono hb1.size)).trans (hb3.mono (Nat.le_trans hb1.size hb2.size))⟩
end Go.Proofs.YtdokgegnpepeeaaDoor
