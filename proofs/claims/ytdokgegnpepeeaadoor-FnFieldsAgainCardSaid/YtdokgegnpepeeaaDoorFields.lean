/- The law FnFieldsAgain: the fields of a line, joined by spaces, have the same fields. -/
import Derived.Test.YtdokgegnpepeeaaDoorFieldsM
import Derived.Test.YtdokgegnpepeeaaDoorMarks
import Derived.Test.YtdokgegnpepeeaaDoorDrawF
import Derived.Test.YtdokgegnpepeeaaDoorNum
namespace Go.Proofs.YtdokgegnpepeeaaDoor
open Go Go.RowKit
def toB (F : List (List UInt8)) : List ByteArray := F.map fun f => ⟨f.toArray⟩
def Split2 (l : List UInt8) (w : World) (e : Ending) (w' : World) : Prop :=
  ∃ (A : Option Addr) (c : Nat), e = .returned (.tuple #[.slice A (splitF l).length c, .bool (splitB l)]) ∧ Row w' A ((toB (splitF l)).map Value.string) ∧ Below w.heap.size w w'
theorem split_row {l : List UInt8} {w w' : World} {e : Ending} (h : SplitPost l w e w') : Split2 l w e w' := by
  obtain ⟨v, he, ho, hb⟩ := h
  obtain ⟨A, m, c, rfl, hm⟩ := ownsRow_slice ho
  subst hm
  refine ⟨A, c, he, ?_, hb⟩
  have e1 : strVals (splitF l) = (toB (splitF l)).map Value.string := by simp [strVals, toB]
  rw [e1] at ho
  exact Row.of_own ho
theorem impl_Split2 (s : ByteArray) (w : World) (hm : s.size ≤ 1000000) : Calls Tryd.prog 16 #[.string s] w (Split2 s.data.toList w) := by
  by_cases h : s.size ≤ 600
  · exact (impl_SplitFields_any s w h).mono fun _ _ h => split_row h
  · exact (impl_SplitFields_long s w (by omega) (by omega)).mono fun _ _ h => split_row h
theorem spec_Split2 (s : ByteArray) (w : World) (hm : s.size ≤ 1000000) : Calls Tryd.prog 17 #[.string s] w (Split2 s.data.toList w) := by
  by_cases h : s.size ≤ 600
  · exact (spec_SplitFields_any s w h).mono fun _ _ h => split_row h
  · exact (spec_SplitFields_long s w (by omega) (by omega)).mono fun _ _ h => split_row h
theorem toB_get (F : List (List UInt8)) (i : Nat) (h : i < F.length) (h2 : i < ((toB F).map Value.string).length) : ((toB F).map Value.string)[i] = .string ⟨(F[i]).toArray⟩ := by simp [toB]
set_option maxHeartbeats 400000 in
theorem FnFieldsAgain_walk (A : Option Addr) (n c : Nat) (w : World) (hb : Bytes w.heap.size w A n) (hm : n ≤ 9223372036854775807) (ht : TabOk w) (hz : 6 ≤ w.heap.size) :
    Calls Tryd.prog 5 #[.slice A n c] w fun e w' => e = .returned (.bool true) ∧ Below w.heap.size w w' := by
  by_cases hn : 1048576 < n
  · go_enter Tryd.func5, Tryd.ntmps5
    go_wp2_with fail
    refine (big_any A n c w true (by simpa using hn) hm).mono ?_
    rintro e w1 ⟨rfl, rfl⟩
    go_wp2_with fail
    go_ret
    exact ⟨rfl, Below.refl _ _⟩
  · have hn' : n ≤ 1048576 := by omega
    go_enter Tryd.func5, Tryd.ntmps5
    go_wp2_with fail
    refine (big_any A n c w false (by simpa using hn') hm).mono ?_
    rintro e w1 ⟨rfl, rfl⟩
    go_wp2_with fail
    refine (DrawSplitFields_any A n c w hb hn').mono ?_
    rintro e w1 ⟨s, rfl, hs, hb1⟩
    have ht1 := Lib.hid (ht.below hb1 hz)
    have hz1 := Nat.le_trans hz hb1.size
    clear hn hn' hm ht hz hb
    have c1 := impl_Split2 s w1 (by omega)
    have c2 := fun W => spec_Split2 s W (by omega)
    by_cases hok : splitOK s.data.toList
    · obtain ⟨eF, eB⟩ := splitF_yes hok
      have hg := fields_good hok
      have hj := fieldsL_join fun f hf => (hg f hf).1
      have hjo := join_ok hok
      have h24 := hok.2.2
      unfold Split2 at c1 c2
      simp only [eF, eB] at c1 c2
      generalize fieldsL s.data.toList = F at c1 c2 hg hj hjo h24
      have Hg := Lib.hid hg
      have Hj := Lib.hid hj
      have Hjo := Lib.hid hjo
      have C1 := Lib.hid c1
      have C2 := Lib.hid c2
      clear c1 c2 hg hj hjo eF eB hok
      go_wp2_with fail
      refine C1.out.mono ?_
      rintro e w2 ⟨A1, k1, rfl, r1, b2⟩
      have R1 := Lib.hid r1
      clear r1
      go_wp2_with fail
      refine (C2.out w2).mono ?_
      rintro e w3 ⟨A2, k2, rfl, _, b3⟩
      have B3 : Below w2.heap.size w2 w3 := b3
      go_wp2_with fail
      go_loop [8, 9] (fun t i => ∃ (j : Nat) (u : ByteArray), j ≤ F.length ∧ t = .string u ∧ i = .int .i64 (j : Int) ∧ Hid (u.data.toList = joinL (F.take j)) ∧ u.size ≤ 601 * j) (fun _ i => F.length - (intOf i).toNat)
      case atStart => exact ⟨0, _, Nat.zero_le _, rfl, rfl, (by show ([] : List UInt8) = _; rfl), (by show 0 ≤ _; omega)⟩
      case round =>
        obtain ⟨j, u, hj, rfl, rfl, hu, hus⟩ := hrel
        by_cases hlt : j < F.length
        · obtain ⟨bb, o, rfl, hbl, hcell⟩ := (R1.out.below B3).at_ (j := j) (by simpa [toB] using hlt)
          rw [toB_get F j hlt] at hcell
          have hfl := (Hg.out F[j] (List.getElem_mem hlt)).2
          have hnx : ∀ f : ByteArray, f = ⟨(F[j]).toArray⟩ → ((u ++ f) ++ ({ data := #[32] } : ByteArray)).data.toList = joinL (F.take (j + 1)) := by
            rintro f rfl
            rw [joinL_snoc F j hlt, ← hu.out]
            simp
          have hfs : (⟨(F[j]).toArray⟩ : ByteArray).size ≤ 600 := by show (F[j]).toArray.size ≤ 600; simpa using hfl
          have Hnx := Lib.hid (hnx _ rfl)
          generalize (⟨(F[j]).toArray⟩ : ByteArray) = f at hcell Hnx hfs
          have hj0 : (0 : Int) ≤ j := by omega
          have hj1 : (j : Int) < F.length := by omega
          have hus2 : u.size ≤ 20000 := by omega
          clear hfl hnx
          go_wp2_with fail
          go_round
          case rel => exact ⟨j + 1, _, by omega, rfl, by go_num, Hnx.out, by rw [size_add, size_add]; show _ + _ + 1 ≤ _; omega⟩
          case measure => simp [intOf]; omega
        · obtain rfl : j = F.length := by omega
          rw [List.take_length] at hu
          have c3 := fun W => impl_Split2 u W (by omega)
          rw [hu.out] at c3
          have hul : u.size = (joinL F).length := by rw [← hu.out]; simp
          by_cases hbig : 600 < u.size
          · have hd : decide ((600 : Int) < (u.size : Int)) = true := by simp; omega
            have C3 := Lib.hid c3
            have Hul := Lib.hid hul
            clear c3 hul
            go_wp2_with fail
            refine (C3.out w3).mono ?_
            rintro e w4 ⟨A3, k3, rfl, _, b4⟩
            go_wp2_with fail
            go_ret
            exact ⟨rfl, ((hb1.trans (b2.mono hb1.size)).trans (b3.mono (Nat.le_trans hb1.size b2.size))).trans (b4.mono (Nat.le_trans hb1.size (Nat.le_trans b2.size b3.size)))⟩
          · have hd : decide ((600 : Int) < (u.size : Int)) = false := by simp; omega
            obtain ⟨eF, eB⟩ := splitF_yes (Hjo.out (by omega))
            unfold Split2 at c3
            simp only [eF, eB, Hj.out] at c3
            have C3 := Lib.hid c3
            have Hul := Lib.hid hul
            clear c3 hul eF eB
            go_wp2_with fail
            refine (C3.out w3).mono ?_
            rintro e w4 ⟨A3, k3, rfl, r4, b4⟩
            have R4 := Lib.hid r4
            have B4 : Below w2.heap.size w2 w4 := B3.trans (b4.mono b3.size)
            clear r4
            go_wp2_with fail
            refine (sameTexts_any F.length k1 k3 A1 A3 (toB F) w4 (R1.out.below B4) R4.out (by simp [toB]) (by omega)).mono ?_
            rintro e w5 ⟨rfl, b5⟩
            go_wp2_with fail
            go_ret
            exact ⟨rfl, (((hb1.trans (b2.mono hb1.size)).trans (b3.mono (Nat.le_trans hb1.size b2.size))).trans (b4.mono (Nat.le_trans hb1.size (Nat.le_trans b2.size b3.size)))).trans (b5.mono (Nat.le_trans hb1.size (Nat.le_trans b2.size (Nat.le_trans b3.size b4.size))))⟩
    · obtain ⟨eF, eB⟩ := splitF_no hok
      have cf := impl_FormatInt (-3) (by unfold inI64; omega)
      rw [show Lib.itoa (-3) = [45, 51] by decide +kernel] at cf
      unfold Split2 at c1 c2
      simp only [eF, eB, List.length_nil] at c1 c2
      have C1 := Lib.hid c1
      have C2 := Lib.hid c2
      have Cf := Lib.hid cf
      clear c1 c2 cf eF eB hok
      go_wp2_with fail
      refine C1.out.mono ?_
      rintro e w2 ⟨A1, k1, rfl, _, b2⟩
      go_wp2_with fail
      refine (C2.out w2).mono ?_
      rintro e w3 ⟨A2, k2, rfl, _, b3⟩
      go_wp2_with fail
      refine (Cf.out w3 ((ht1.out.below b2 hz1).below b3 (Nat.le_trans hz1 b2.size))).mono ?_
      rintro e w4 ⟨rfl, b4⟩
      go_wp2_with fail
      go_ret
      exact ⟨rfl, ((hb1.trans (b2.mono hb1.size)).trans (b3.mono (Nat.le_trans hb1.size b2.size))).trans (b4.mono (Nat.le_trans hb1.size (Nat.le_trans b2.size b3.size)))⟩
end Go.Proofs.YtdokgegnpepeeaaDoor
