/- The law FnExactSplitFields, walked out of the contracts. -/
import Derived.Test.YtdokgegnpepeeaaSplit
import Derived.Test.YtdokgegnpepeeaaMarks
namespace Go.Proofs.Ytdokgegnpepeeaa
open Go Go.RowKit
theorem splitF_le (l : List UInt8) : (splitF l).length ≤ 24 := by
  by_cases h : splitOK l
  · rw [(splitF_yes h).1]; exact h.2.2
  · rw [(splitF_no h).1]; simp
def Split' (F : List ByteArray) (b : Bool) (w : World) (e : Ending) (w' : World) : Prop :=
  ∃ (A : Option Addr) (c : Nat), e = .returned (.tuple #[.slice A F.length c, .bool b]) ∧ w'.ownsRow w.heap.size 9 1 (.slice A F.length c) F.length (F.map Value.string) ∧ Below w.heap.size w w'
theorem split_to {l : List UInt8} {w w' : World} {e : Ending} (h : SplitPost l w e w') : Split' ((splitF l).map fun f => ⟨f.toArray⟩) (splitB l) w e w' := by
  obtain ⟨v, he, ho, hb⟩ := h
  obtain ⟨A, m, c, rfl, hm⟩ := ownsRow_slice ho
  subst hm
  refine ⟨A, c, by simpa using he, ?_, hb⟩
  have e1 : strVals (splitF l) = ((splitF l).map fun f => (⟨f.toArray⟩ : ByteArray)).map Value.string := by simp [strVals]
  rw [e1] at ho
  simpa using ho
theorem FnExactSplitFields_walk (s : ByteArray) (w : World) (hm : s.size ≤ 9223372036854775807) :
    Calls Try.prog 6 #[.string s] w fun e w' => e = .returned (.bool true) ∧ Below w.heap.size w w' := by
  by_cases h1 : 1048576 < s.size
  · have hd : decide ((1048576 : Int) < (s.size : Int)) = true := by simp; omega
    go_enter Try.func6, Try.ntmps6
    go_wp2_with fail
    go_ret
    exact ⟨rfl, Below.refl _ _⟩
  · have hd : decide ((1048576 : Int) < (s.size : Int)) = false := by simp; omega
    have ci : ∀ W, Calls Try.prog 16 #[.string s] W (Split' ((splitF s.data.toList).map fun f => ⟨f.toArray⟩) (splitB s.data.toList) W) := fun W => by
      by_cases h : s.size ≤ 600
      · exact (impl_SplitFields_any s W h).mono fun _ _ h => split_to h
      · exact (impl_SplitFields_long s W (by omega) hm).mono fun _ _ h => split_to h
    have cs : ∀ W, Calls Try.prog 15 #[.string s] W (Split' ((splitF s.data.toList).map fun f => ⟨f.toArray⟩) (splitB s.data.toList) W) := fun W => by
      by_cases h : s.size ≤ 600
      · exact (spec_SplitFields_any s W h).mono fun _ _ h => split_to h
      · exact (spec_SplitFields_long s W (by omega) hm).mono fun _ _ h => split_to h
    have hF : ((splitF s.data.toList).map fun f => (⟨f.toArray⟩ : ByteArray)).length ≤ 24 := by simpa using splitF_le s.data.toList
    generalize ((splitF s.data.toList).map fun f => (⟨f.toArray⟩ : ByteArray)) = F at ci cs hF
    generalize splitB s.data.toList = b at ci cs
    have Ci := Lib.hid ci
    have Cs := Lib.hid cs
    clear ci cs
    have hbb : (b != b) = false := by cases b <;> rfl
    go_enter Try.func6, Try.ntmps6
    go_wp2_with fail
    refine (Cs.out w).mono ?_
    rintro e w1 ⟨A1, c1, rfl, o1, b1⟩
    have R1 := Lib.hid (Row.of_own o1)
    clear o1
    go_wp2_with fail
    refine (Ci.out w1).mono ?_
    rintro e w2 ⟨A2, c2, rfl, o2, b2⟩
    have R2 := Lib.hid (Row.of_own o2)
    have O2 := Lib.hid o2
    clear o2
    go_wp2_with fail
    refine (eqString_any F.length c2 c1 A2 A1 F w2 R2.out (R1.out.below b2) rfl (by omega)).mono ?_
    rintro e w3 ⟨rfl, b3⟩
    have C3 : Below w1.heap.size w1 w3 := b2.trans (b3.mono b2.size)
    go_wp2_with fail
    refine (markString_any w1.heap.size F.length 1 _ _ w3 (own_below O2.out b3) C3.size (by omega)).mono ?_
    rintro e w4 ⟨rfl, o4, b4⟩
    have C4 : Below w1.heap.size w1 w4 := C3.trans b4
    have R4 := Lib.hid (Row.of_own o4)
    clear o4
    go_wp2_with fail
    refine (heldString_any F.length 1 c2 A2 w4 R4.out (by omega)).mono ?_
    rintro e w5 ⟨rfl, b5⟩
    have C5 : Below w1.heap.size w1 w5 := C4.trans (b5.mono C4.size)
    go_wp2_with fail
    refine (Ci.out w5).mono ?_
    rintro e w6 ⟨A3, c3, rfl, o6, b6⟩
    have C6 : Below w1.heap.size w1 w6 := C5.trans (b6.mono C5.size)
    have R6 := Lib.hid (Row.of_own o6)
    have D6 : Below w4.heap.size w4 w6 := b5.trans (b6.mono b5.size)
    clear o6
    go_wp2_with fail
    refine (eqString_any F.length c3 c1 A3 A1 F w6 R6.out (R1.out.below C6) rfl (by omega)).mono ?_
    rintro e w7 ⟨rfl, b7⟩
    have C7 : Below w1.heap.size w1 w7 := C6.trans (b7.mono C6.size)
    have D7 : Below w4.heap.size w4 w7 := D6.trans (b7.mono D6.size)
    go_wp2_with fail
    refine (heldString_any F.length 1 c2 A2 w7 (R4.out.below D7) (by omega)).mono ?_
    rintro e w8 ⟨rfl, b8⟩
    have C8 : Below w1.heap.size w1 w8 := C7.trans (b8.mono C7.size)
    go_wp2_with fail
    go_ret
    exact ⟨rfl, b1.trans (C8.mono b1.size)⟩
end Go.Proofs.Ytdokgegnpepeeaa
