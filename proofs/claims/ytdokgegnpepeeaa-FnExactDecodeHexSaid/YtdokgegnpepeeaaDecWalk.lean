/- The law FnExactDecodeHex, walked out of the contracts. -/
import Derived.Test.YtdokgegnpepeeaaHexD
namespace Go.Proofs.Ytdokgegnpepeeaa
open Go Go.RowKit
theorem decR_form (l : List UInt8) : ∃ (s : ByteArray) (b : Bool), decR l = .tuple #[.string s, .bool b] := by
  unfold decR; split
  · exact ⟨_, _, rfl⟩
  · exact ⟨_, _, rfl⟩
theorem FnExactDecodeHex_walk (s : ByteArray) (w : World) (hm : s.size ≤ 9223372036854775807) :
    Calls Try.prog 5 #[.string s] w fun e w' => e = .returned (.bool true) ∧ Below w.heap.size w w' := by
  by_cases h1 : 1048576 < s.size
  · have hd : decide ((1048576 : Int) < (s.size : Int)) = true := by simp; omega
    go_enter Try.func5, Try.ntmps5
    go_wp2_with fail
    go_ret
    exact ⟨rfl, Below.refl _ _⟩
  · have hd : decide ((1048576 : Int) < (s.size : Int)) = false := by simp; omega
    have h2 : s.size ≤ 1048576 := by omega
    obtain ⟨r, b, hr⟩ := decR_form s.data.toList
    have c1 := spec_DecodeHex_any s w h2
    have c2 := fun w1 => impl_DecodeHex_any s w1 h2
    rw [hr] at c1
    simp only [hr] at c2
    have C1 := Lib.hid c1
    have C2 := Lib.hid c2
    clear c1 c2 hr
    go_enter Try.func5, Try.ntmps5
    go_wp2_with fail
    refine C1.out.mono ?_
    rintro e w1 ⟨rfl, hb1⟩
    go_wp2_with fail
    refine (C2.out w1).mono ?_
    rintro e w2 ⟨rfl, hb2⟩
    go_wp2_with fail
    go_ret
    exact ⟨rfl, hb1.trans (hb2.mono hb1.size)⟩
end Go.Proofs.Ytdokgegnpepeeaa
