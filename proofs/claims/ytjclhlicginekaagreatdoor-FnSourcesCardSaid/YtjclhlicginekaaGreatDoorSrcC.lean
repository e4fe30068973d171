/- strings.CutPrefix at a prefix of one byte at most. -/
import Derived.Test.YtjclhlicginekaaGreatDoorProg
import Derived.Test.YtjclhlicginekaaGreatDoorSrcN
namespace Go.Proofs.YtjclhlicginekaaGreatDoor
open Go Go.RowKit
set_option maxRecDepth 100000 in
theorem hasPrefix_any (f L : ByteArray) (b : Bool) (hb : decide (L.size ≤ f.size ∧ f.extract 0 L.size = L) = b) (w : World) :
    Calls Tryz.prog 88 #[.string f, .string L] w fun e w' => e = .returned (.bool b) ∧ w' = w := by
  subst hb
  by_cases hlt : f.size < L.size
  · have e : decide (L.size ≤ f.size ∧ f.extract 0 L.size = L) = false := by simp; omega
    rw [e]
    have h1 : decide ((L.size : Int) ≤ f.size) = false := by simp; omega
    clear e
    go_enter Tryz.func88, Tryz.ntmps88
    go_wp2_with fail
    go_ret
    exact ⟨rfl, rfl⟩
  · have h1 : (L.size : Int) ≤ f.size := by omega
    by_cases hp : f.extract 0 L.size = L
    · have e : decide (L.size ≤ f.size ∧ f.extract 0 L.size = L) = true := decide_eq_true ⟨by omega, hp⟩
      rw [e]
      clear e
      go_enter Tryz.func88, Tryz.ntmps88
      go_wp2_with fail
      go_ret
      exact ⟨rfl, rfl⟩
    · have e : decide (L.size ≤ f.size ∧ f.extract 0 L.size = L) = false := decide_eq_false fun h => hp h.2
      rw [e]
      have hne : (f.extract 0 L.size).data.toList ≠ L.data.toList := fun e => hp (by apply WideShapes.bytes_inj; exact e)
      obtain ⟨n1, n2⟩ := str_ne hne
      clear e hp hne
      go_enter Tryz.func88, Tryz.ntmps88
      go_wp2_with fail
      go_ret
      exact ⟨rfl, rfl⟩
def cutV (f L : ByteArray) : Value := if L.size ≤ f.size ∧ f.extract 0 L.size = L then .tuple #[.string (f.extract L.size f.size), .bool true] else .tuple #[.string f, .bool false]
set_option maxRecDepth 100000 in
theorem cutPrefix_lite (f L : ByteArray) (w : World) :
    Calls Tryz.prog 77 #[.string f, .string L] w fun e w' => e = .returned (cutV f L) ∧ w' = w := by
  unfold cutV
  by_cases hp : L.size ≤ f.size ∧ f.extract 0 L.size = L
  · rw [if_pos hp]
    have h1 : (L.size : Int) ≤ f.size := by omega
    have ch := hasPrefix_any f L true (decide_eq_true hp) w
    clear hp
    go_enter Tryz.func77, Tryz.ntmps77
    go_wp2_with fail
    refine ch.mono ?_
    rintro e w1 ⟨rfl, rfl⟩
    go_wp2_with fail
    go_ret2
    exact ⟨rfl, rfl⟩
  · rw [if_neg hp]
    have ch := hasPrefix_any f L false (decide_eq_false hp) w
    clear hp
    go_enter Tryz.func77, Tryz.ntmps77
    go_wp2_with fail
    refine ch.mono ?_
    rintro e w1 ⟨rfl, rfl⟩
    go_wp2_with fail
    go_ret2
    exact ⟨rfl, rfl⟩
theorem cutV_form (f L : ByteArray) : ∃ t b, cutV f L = .tuple #[.string t, .bool b] := by
  unfold cutV
  split
  · exact ⟨_, _, rfl⟩
  · exact ⟨_, _, rfl⟩
theorem cutPrefix_any (f L : ByteArray) (w : World) :
    Calls Tryz.prog 60 #[.string f, .string L] w fun e w' => e = .returned (cutV f L) ∧ w' = w := by
  have c := cutPrefix_lite f L w
  obtain ⟨t, b, e⟩ := cutV_form f L
  rw [e] at c ⊢
  clear e
  go_enter Tryz.func60, Tryz.ntmps60
  go_wp2_with fail
  refine c.mono ?_
  rintro e w1 ⟨rfl, rfl⟩
  go_wp2_with fail
  go_ret2
  exact ⟨rfl, rfl⟩
end Go.Proofs.YtjclhlicginekaaGreatDoor
