/- FSum and its model return the same sum, and write nothing that was there. -/
import Derived.Test.YtcjgoonkdjaccaaProg
import Derived.Test.YtcjgoonkdjaccaaInts
import Derived.Test.YtcjgoonkdjaccaaFieldI
import Derived.Handy
namespace Go.Proofs.Ytcjgoonkdjaccaa
open Go Go.RowKit
def elsTo (p : Int) (xs : List Int) (k : Nat) : Prop := ∀ j, j < k → isEl p (xs.getD j 0)
theorem elsTo_next {p : Int} {xs : List Int} {k : Nat} (h : elsTo p xs k) (hk : isEl p (xs.getD k 0)) : elsTo p xs (k + 1) := fun j hj => by
  rcases Nat.lt_or_ge j k with h' | h'
  · exact h j h'
  · obtain rfl : j = k := by omega
    exact hk
theorem elsTo_all {p : Int} {xs : List Int} (hp : isP p) (h : elsTo p xs xs.length) : allEl p xs := by
  refine ⟨hp, fun x hx => ?_⟩
  obtain ⟨j, hj, rfl⟩ := List.mem_iff_getElem.1 hx
  have := h j hj
  rwa [List.getD_eq_getElem?_getD, List.getElem?_eq_getElem hj] at this
theorem not_all {p : Int} {xs : List Int} {k : Nat} (hk : k < xs.length) (h : ¬ isEl p (xs.getD k 0)) : ¬ allEl p xs := fun e => h (by
  rw [List.getD_eq_getElem?_getD, List.getElem?_eq_getElem hk]
  exact e.2 _ (List.getElem_mem _))
theorem isEl_at {p : Int} {xs : List Int} {k : Nat} (h : allEl p xs) (hk : k < xs.length) : isEl p (xs.getD k 0) := by
  rw [List.getD_eq_getElem?_getD, List.getElem?_eq_getElem hk]
  exact h.2 _ (List.getElem_mem _)
theorem l03All_at (p : Int) (A : Option Addr) (n c : Nat) (xs : List Int) (r : Bool) (hr : decide (allEl p xs) = r) (w : World) (hx : Ints w A xs) (hl : xs.length = n) (hn : n ≤ 1000000000) :
    Calls Try.prog 52 #[.int .i64 p, .slice A n c] w fun e w' => e = .returned (.bool r) ∧ w = w' := by
  subst hr
  have Hl := Lib.hid hl
  clear hl
  go_enter Try.func52, Try.ntmps52
  go_wp2_with fail
  go_loop [5] (fun i => ∃ k : Nat, k ≤ n ∧ i = .int .i64 k ∧ Hid (elsTo p xs k)) (fun i => n - (intOf i).toNat)
  case atStart => exact ⟨0, Nat.zero_le _, rfl, fun j hj => by omega⟩
  case round =>
    obtain ⟨k, hk, rfl, he⟩ := hrel
    by_cases hlt : k < n
    · obtain ⟨b, o, rfl, hbl, hc⟩ := hx.at_ (j := k) (by rw [Hl.out]; exact hlt)
      generalize hz : xs.getD k 0 = x at hc
      have Hz := Lib.hid hz
      have hk0 : (0 : Int) ≤ k := by omega
      have hk1 : (k : Int) < n := by omega
      clear hx hz
      by_cases hel : isEl p x
      · have Hnext : Hid (elsTo p xs (k + 1)) := elsTo_next he.out (by rw [Hz.out]; exact hel)
        go_wp2_with fail
        refine (spec_IsElement_at p x true (decide_eq_true hel) w).mono ?_
        rintro e w1 ⟨rfl, rfl⟩
        go_wp2_with fail
        go_round
        case rel => exact ⟨k + 1, by omega, by go_num, Hnext⟩
        case measure => simp [intOf]; omega
      · have Hno : Hid (decide (allEl p xs) = false) := decide_eq_false (not_all (k := k) (by rw [Hl.out]; exact hlt) (by rw [Hz.out]; exact hel))
        go_wp2_with fail
        refine (spec_IsElement_at p x false (decide_eq_false hel) w).mono ?_
        rintro e w1 ⟨rfl, rfl⟩
        go_wp2_with fail
        go_ret
        exact ⟨ret_bool Hno.out.symm, rfl⟩
    · obtain rfl : k = n := by omega
      have Hd : Hid (decide (isP p) = decide (allEl p xs)) := decide_eq_decide.2 ⟨fun h => elsTo_all h (by rw [Hl.out]; exact he.out), fun h => h.1⟩
      clear hx
      go_wp2_with fail
      refine (spec_FieldOk p w).mono ?_
      rintro e w1 ⟨rfl, rfl⟩
      go_wp2_with fail
      go_ret
      exact ⟨ret_bool Hd.out, rfl⟩
theorem impl_FSum (p : Int) (A : Option Addr) (n c : Nat) (xs : List Int) (w : World) (hx : Ints w A xs) (hl : xs.length = n) (hn : n ≤ 1000000000) :
    Calls Try.prog 71 #[.int .i64 p, .slice A n c] w fun e w' => e = .returned (.int .i64 (fsumI p xs)) ∧ Below w.heap.size w w' := by
  have Hl := Lib.hid hl
  clear hl
  by_cases hp : isP p
  · have h0 := isEl_zero hp
    go_enter Try.func71, Try.ntmps71
    go_wp2_with fail
    refine (impl_newElement_yes p 0 h0 w).mono ?_
    rintro e w1 ⟨rfl, hb1⟩
    go_wp2_with fail
    have hg := heap_alloc_new w1 (.cells #[.int .i64 p, .int .i64 0] 59)
    have hb2 := hb1.alloc hb1.size (.cells #[.int .i64 p, .int .i64 0] 59)
    have hgB := hb1.size
    have Hg := Lib.hid hg
    have Hb2 := Lib.hid hb2
    clear hg hb2 hb1
    go_wp2_with fail
    generalize w1.heap.size = g at *
    go_loopw [20] (fun i wr => ∃ k : Nat, k ≤ n ∧ i = .int .i64 k ∧ Hid (elsTo p xs k) ∧ wr.heap[g]? = some (.cells #[.int .i64 p, .int .i64 (sumN p xs k)] 59 (0, 0)) ∧ Below w.heap.size w wr) (fun i _ => n - (intOf i).toNat)
    case atStart => exact ⟨0, Nat.zero_le _, rfl, fun j hj => by omega, Hg.out, Hb2.out⟩
    case round =>
      obtain ⟨k, hk, rfl, he, hh, hbr⟩ := hrel
      obtain ⟨hs0, hs1⟩ := sumN_range p xs hp.range.1 k
      have hgl := (Array.getElem?_eq_some_iff.1 hh).1
      by_cases hlt : k < n
      · obtain ⟨b, o, rfl, hbl, hc⟩ := (hx.bound.below hbr).at_ (j := k) (by rw [Hl.out]; exact hlt)
        have Hnext := Lib.hid (sumN_next p xs k)
        generalize hz : xs.getD k 0 = x at hc Hnext
        have Hz := Lib.hid hz
        have hk0 : (0 : Int) ≤ k := by omega
        have hk1 : (k : Int) < n := by omega
        have hes : isEl p (sumN p xs k) := ⟨hp, hs0, hs1⟩
        generalize sumN p xs k = s at hh hs0 hs1 Hnext hes
        have Hh := Lib.hid hh
        have Hbr := Lib.hid hbr
        clear hx hz hh hbr
        by_cases hel : isEl p x
        · have Helsn : Hid (elsTo p xs (k + 1)) := elsTo_next he.out (by rw [Hz.out]; exact hel)
          go_wp2_with fail
          refine (impl_newElement_yes p x hel wr).mono ?_
          rintro e w2 ⟨rfl, hb2⟩
          have h2 := (hb2.block g hgl).trans Hh.out
          have hl2 : g < w2.heap.size := (Array.getElem?_eq_some_iff.1 h2).1
          obtain ⟨c0, c1⟩ := cells2 (Obj.cells #[.int .i64 p, .int .i64 x] 59) h2
          have hb3 := Lib.hid ((Hbr.out.trans (hb2.mono Hbr.out.size)).alloc (by have := Hbr.out.size; have := hb2.size; omega) (.cells #[.int .i64 p, .int .i64 x] 59))
          have h3 := Lib.hid ((Below.heap_alloc w2 (.cells #[.int .i64 p, .int .i64 x] 59) g hl2).trans h2)
          have hl3 : g < (w2.alloc (.cells #[.int .i64 p, .int .i64 x] 59)).heap.size := by simp; omega
          clear h2 hb2
          go_wp2_with fail
          refine (impl_plus p s x hes hel _).mono ?_
          rintro e w3 ⟨rfl, hb4⟩
          have h4 := (hb4.block g hl3).trans h3.out
          obtain ⟨q0, q1, q2, q3⟩ := box2 h4
          have h5 := Lib.hid (box2_set h4 (.int .i64 p) (.int .i64 ((s + x) % p)))
          have hb5 := Lib.hid ((((hb3.out.trans (hb4.mono hb3.out.size)).setCell (p := ⟨g, 0, none⟩) hgB (.int .i64 p)).setCell (p := ⟨g, 1, none⟩) hgB (.int .i64 ((s + x) % p))))
          clear h4 hb4 c0 c1
          go_wp2_with fail
          go_roundw
          case rel => exact ⟨k + 1, by omega, by go_num, Helsn, by rw [Hnext.out]; exact h5.out, hb5.out⟩
          case measure => simp [intOf]; omega
        · have hno := fsumI_no (not_all (k := k) (by rw [Hl.out]; exact hlt) (by rw [Hz.out]; exact hel))
          have Hno := Lib.hid hno
          clear hno
          go_wp2_with fail
          refine (impl_newElement_no p x hel wr).mono ?_
          rintro e w2 ⟨rfl, hb2⟩
          have hb3 := Lib.hid ((Hbr.out.trans (hb2.mono Hbr.out.size)).alloc (by have := Hbr.out.size; have := hb2.size; omega) (.cells #[.int .i64 0, .int .i64 0] 59))
          clear hb2
          go_wp2_with fail
          go_ret
          exact ⟨ret_int Hno.out.symm, hb3.out⟩
      · obtain rfl : k = n := by omega
        have hy := fsumI_yes (elsTo_all hp (by rw [Hl.out]; exact he.out))
        rw [Hl.out] at hy
        have Hy := Lib.hid hy
        clear hy hx
        obtain ⟨q0, q1, _, _⟩ := box2 hh
        go_wp2_with fail
        go_ret
        exact ⟨ret_int Hy.out.symm, hbr⟩
  · have hno : ¬ isEl p 0 := fun e => hp e.1
    rw [fsumI_no (fun e => hp e.1)]
    go_enter Try.func71, Try.ntmps71
    go_wp2_with fail
    refine (impl_newElement_no p 0 hno w).mono ?_
    rintro e w1 ⟨rfl, hb1⟩
    go_wp2_with fail
    go_ret
    exact ⟨rfl, hb1.alloc hb1.size _⟩
end Go.Proofs.Ytcjgoonkdjaccaa
