/- The draws of the fields' laws: a prime, and twelve places. FnField and FnInverse. -/
import Derived.Test.YtegdlegndgdgiaaProg
import Derived.Test.YtegdlegndgdgiaaB1
namespace Go.Proofs.Ytegdlegndgdgiaa
open Go Go.RowKit
/-- Numbers that are places. -/
def places (zs : List Int) : Prop := ∀ z ∈ zs, 0 ≤ z ∧ z < 10000
theorem places.at_ {zs : List Int} (h : places zs) {j : Nat} (hj : j < zs.length) : 0 ≤ zs.getD j 0 ∧ zs.getD j 0 < 10000 := by
  rw [List.getD_eq_getElem?_getD, List.getElem?_eq_getElem hj]
  exact h _ (List.getElem_mem _)
theorem intVals_snoc (l : List Int) (x : Int) : intVals l ++ (#[Value.int .i64 x] : Array Value).toList = intVals (l ++ [x]) := by simp [intVals]
theorem DrawPlaces_any (A : Option Addr) (n c : Nat) (w : World) (hb : Bytes w.heap.size w A n) (hn : n ≤ 2000000) :
    Calls Try.prog 31 #[.slice A n c] w fun e w' => ∃ (g cap : Nat) (zs : List Int), e = .returned (.slice (some ⟨g, 0, none⟩) 12 cap) ∧ zs.length = 12 ∧ places zs ∧ w'.ownsRow w.heap.size 3 1 (.slice (some ⟨g, 0, none⟩) 12 cap) 12 (intVals zs) ∧ Below w.heap.size w w' := by
  go_enter Try.func31, Try.ntmps31
  go_wp2_with fail
  refine (l01New_any A n c w hb hn).mono ?_
  rintro e w1 ⟨g, rfl, hc1, hb1⟩
  go_wp2_with fail
  have hgl := hc1.lt
  have hBw := hb1.size
  go_loopw [4, 5] (fun v i wr => ∃ l : List Int, l.length ≤ 12 ∧ i = .int .i64 (l.length : Int) ∧ places l ∧ wr.ownsRow w1.heap.size 3 1 v l.length (intVals l) ∧ Cur 116 w.heap.size wr g ∧ w1.grownBy wr (some g)) (fun _ i _ => 12 - (intOf i).toNat)
  case atStart => exact ⟨[], Nat.zero_le _, rfl, (by intro z hz; simp at hz), World.ownsRow_made w1 #[] 0 (Nat.le_refl _) (by unfold maxLen; omega) rfl, hc1.alloc _, World.grownBy_alloc w1 _ _⟩
  case round =>
    obtain ⟨l, hl, rfl, hpl, hown, hcr, hgr⟩ := hrel
    by_cases hlt : l.length < 12
    · go_wp2_with fail
      refine (l01Below_any _ g 10000 wr hcr).mono ?_
      rintro e w2 ⟨z, rfl, ⟨_, hz⟩, hc2, hg2⟩
      obtain ⟨hz0, hz1⟩ := hz (by omega)
      clear hz
      have hown1 := own_cur hown hg2 hgl
      have hgr1 := hgr.trans hg2
      have hs1 := hgr1.size
      clear hown hcr hgr hg2
      go_wp2_with (first | (at_builtin; refine app_list (e' := 3) elemInt rfl _ _ rfl w1.heap.size _ l.length (intVals l) rfl (hown1.alloc _) w2.heap.size 1 1 _ (0, 0) rfl (heap_alloc_new w2 _) rfl (oneCell_i64 [_]) (by omega) (by unfold maxLen; omega) (by omega) (by simp; omega) (w2.heap.size + 1) (by simp) ?_))
      intro g2 cap w3 hown2 hgrow hat hgl2
      rw [intVals_snoc l z] at hown2
      have hc3 := cur_own (hc2.alloc _) (hown1.alloc _) hgrow hgl
      have hgr2 := grown_own (grown_alloc hgr1 _) (hown1.alloc _) hgrow (Nat.le_refl _)
      have hll : (l ++ [z]).length = l.length + 1 := by simp
      rw [← hll] at hown2
      have Hpl : Hid (places (l ++ [z])) := by
        intro y hy
        rcases List.mem_append.1 hy with h | h
        · exact hpl y h
        · simp at h; subst h; exact ⟨hz0, hz1⟩
      have Hown2 := Lib.hid hown2
      have Hc3 := Lib.hid hc3
      have Hgr2 := Lib.hid hgr2
      have Hll := Lib.hid hll
      clear hown2 hc3 hgr2 hll hown1 hc2 hgr1 hgrow hpl
      go_wp2_with fail
      go_roundw
      case rel => exact ⟨_, by rw [Hll.out]; omega, by rw [Hll.out]; go_num, Hpl.out, by simpa using Hown2.out, Hc3.out, Hgr2.out⟩
      case measure => simp [intOf]; omega
    · have hle : l.length = 12 := by omega
      rw [hle] at hown
      obtain ⟨g2, cap, rfl, hbg, hlt2⟩ := hown.form (by omega)
      have hbf := Lib.hid (below_cur hb1 hc1 hgr)
      have Hle := Lib.hid hle
      have Hown := Lib.hid (own_mono hown hBw)
      clear hle hown
      go_wp2_with fail
      go_ret
      exact ⟨g2, cap, l, rfl, Hle.out, hpl, Hown.out, hbf.out⟩
end Go.Proofs.Ytegdlegndgdgiaa
