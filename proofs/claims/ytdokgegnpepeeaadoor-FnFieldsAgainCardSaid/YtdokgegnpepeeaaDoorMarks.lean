/- The helpers of the exact laws over slices of strings: comparing, marking, asking the marks. -/
import Derived.Test.YtdokgegnpepeeaaDoorProg
import Derived.Test.YtdokgegnpepeeaaDoorDraw
import Derived.Test.YtdokgegnpepeeaaDoorDigs
namespace Go.Proofs.YtdokgegnpepeeaaDoor
open Go Go.RowKit
def mtext (k : Nat) : List UInt8 := if k = 0 then [109, 48] else 109 :: digs k
def Row (w : World) (A : Option Addr) (xs : List Value) : Prop :=
  0 < xs.length → ∃ b o, A = some ⟨b, o, none⟩ ∧ b < w.heap.size ∧ ∀ j, j < xs.length → w.cell? ⟨b, o + j, none⟩ = xs[j]?
theorem Row.below {w w' : World} {A : Option Addr} {xs : List Value} (h : Row w A xs) (hb : Below w.heap.size w w') : Row w' A xs := fun h0 => by
  obtain ⟨b, o, e, hl, hc⟩ := h h0
  exact ⟨b, o, e, Nat.lt_of_lt_of_le hl hb.size, fun j hj => (hb.cell (p := ⟨b, o + j, none⟩) hl).trans (hc j hj)⟩
theorem Row.of_own {w : World} {base n c : Nat} {e : TypeId} {A : Option Addr} {xs : List Value} (h : w.ownsRow base e 1 (.slice A n c) n xs) : Row w A xs := fun h0 => by
  rcases h.2 with ⟨he, h1⟩ | ⟨g, cap, cur, he, hg, hh, _⟩
  · have := h.1; omega
  · injection he with he1 he2 he3
    subst he1 he3
    refine ⟨g, 0, rfl, (Array.getElem?_eq_some_iff.1 hh).1, fun j hj => ?_⟩
    rw [Nat.zero_add]
    exact h.cellAt j (by have := h.1; omega)
theorem Row.at_ {w : World} {A : Option Addr} {xs : List Value} {j : Nat} (h : Row w A xs) (hj : j < xs.length) : ∃ b o, A = some ⟨b, o, none⟩ ∧ b < w.heap.size ∧ w.cell? ⟨b, o + j, none⟩ = some xs[j] := by
  obtain ⟨b, o, e, hl, hc⟩ := h (by omega)
  exact ⟨b, o, e, hl, by rw [hc j hj]; exact List.getElem?_eq_getElem hj⟩
theorem sameTexts_any (n c1 c2 : Nat) (A B : Option Addr) (l : List ByteArray) (w : World) (ha : Row w A (l.map Value.string)) (hb : Row w B (l.map Value.string)) (hl : l.length = n) (hn : n ≤ 100000) :
    Calls Tryd.prog 18 #[.slice A n c1, .slice B n c2] w fun e w' => e = .returned (.bool true) ∧ Below w.heap.size w w' := by
  have Hl := Lib.hid hl
  clear hl
  go_enter Tryd.func18, Tryd.ntmps18
  go_wp2_with fail
  go_loopw [5] (fun i wr => ∃ j : Nat, j ≤ n ∧ i = .int .i64 j ∧ Below w.heap.size w wr) (fun i _ => n - (intOf i).toNat)
  case atStart => exact ⟨0, Nat.zero_le _, rfl, Below.refl _ _⟩
  case round =>
    obtain ⟨j, hj, rfl, hbr⟩ := hrel
    by_cases hlt : j < n
    · have hlj : j < l.length := by rw [Hl.out]; exact hlt
      obtain ⟨b, o, rfl, hbl, hc⟩ := (ha.below hbr).at_ (j := j) (by simpa using hlj)
      obtain ⟨b', o', rfl, hbl', hc'⟩ := (hb.below hbr).at_ (j := j) (by simpa using hlj)
      simp only [List.getElem_map] at hc hc'
      generalize l[j] = s at hc hc'
      have hj0 : (0 : Int) ≤ j := by omega
      have hj1 : (j : Int) < n := by omega
      clear ha hb
      go_wp2_with fail
      go_quiet (fail)
      go_wp2_with fail
      go_roundw
      case rel => exact ⟨j + 1, by omega, by go_num, below_drewN hbr _⟩
      case measure => simp [intOf]; omega
    · go_wp2_with fail
      go_ret
      exact ⟨rfl, hbr⟩
end Go.Proofs.YtdokgegnpepeeaaDoor
