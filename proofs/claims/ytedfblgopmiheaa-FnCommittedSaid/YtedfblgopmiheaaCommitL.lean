/- The law FnCommitted. -/
import Derived.Test.YtedfblgopmiheaaProg
import Derived.Test.YtedfblgopmiheaaCommit
import Derived.Test.YtedfblgopmiheaaWordsD
import Derived.Test.YtedfblgopmiheaaFieldW
namespace Go.Proofs.Ytedfblgopmiheaa
open Go Go.RowKit
theorem Bytes.more {B B' n : Nat} {w w' : World} {A : Option Addr} (h : Bytes B w A n) (hb : Below B w w') (hB : B ≤ B') : Bytes B' w' A n := fun hn => by
  obtain ⟨b, o, e, hl, hc⟩ := h.keep (fun k hk => hb.block k hk) hn
  exact ⟨b, o, e, by omega, hc⟩
theorem FnCommitted_walk (A : Option Addr) (n c : Nat) (w : World) (hb : Bytes w.heap.size w A n) (hm : n ≤ 9223372036854775807) :
    Calls Try.prog 3 #[.slice A n c] w fun e w' => e = .returned (.bool true) ∧ Below w.heap.size w w' := by
  by_cases hn : 1048576 < n
  · go_enter Try.func3, Try.ntmps3
    go_wp2_with fail
    refine (big_any A n c w true (by simpa using hn) hm).mono ?_
    rintro e w1 ⟨rfl, rfl⟩
    go_wp2_with fail
    go_ret
    exact ⟨rfl, Below.refl _ _⟩
  · have hn' : n ≤ 1048576 := by omega
    go_enter Try.func3, Try.ntmps3
    go_wp2_with fail
    refine (big_any A n c w false (by simpa using hn') hm).mono ?_
    rintro e w1 ⟨rfl, rfl⟩
    go_wp2_with fail
    refine (DrawWord_any A n c w hb (by omega)).mono ?_
    rintro e w1 ⟨a, rfl, ha, hb1⟩
    clear hn hm
    have hbA := hb.keep fun k hk => (hb1.alloc hb1.size (.cells #[.int .u8 3] 5)).block k hk
    go_wp2_with (first | (at_builtin; refine app_bytes elemU8a rfl _ _ rfl w1.heap.size _ 1 [.int .u8 3] rfl (own_one w1 3 _) (by omega) (byte_one (by omega) (by omega)) w.heap.size A n c rfl hbA (by unfold maxLen; omega) (by omega) (by simp) ?_))
    intro g cap w2 hby hgr
    have hb2 := below_app hb1 hb1.size hgr
    have hs2 := hb2.size
    clear hgr hbA
    go_wp2_with fail
    refine (DrawWord_any _ (1 + n) cap w2 hby (by omega)).mono ?_
    rintro e w3 ⟨b, rfl, hb', hb3⟩
    have hb4 : Below w.heap.size w w3 := hb2.trans (hb3.mono hs2)
    have hbA := hb.more hb4 hb4.size
    clear hb1 hb2 hb3 hby hb hs2
    go_wp2_with fail
    refine (DrawPlaces_any A n c w3 hbA (by omega)).mono ?_
    rintro e w5 ⟨g, cap, zs, rfl, hl, hpl, hown, hb5⟩
    have hb6 := hb4.trans (hb5.mono hb4.size)
    obtain ⟨b0, o0, e0, hl0, c0⟩ := (Ints.of_own hown).at_ (j := 0) (by omega)
    injection e0 with e0
    injection e0 with e00 e01
    subst e00 e01
    obtain ⟨x0, x1⟩ := hpl.at_ (j := 0) (by omega)
    generalize zs.getD 0 0 = q at c0 x0 x1
    simp only [Nat.zero_add] at c0
    clear hown hpl hl hbA hb4 hb5
    have ca : canC a q := ⟨ha, x0, by omega⟩
    have cb : canC b q := ⟨hb', x0, by omega⟩
    obtain ⟨v, hv⟩ : ∃ v, commitI a q = v := ⟨_, rfl⟩
    have hvw : isWord v := by rw [← hv]; exact commitI_word _ _
    have Hv := Lib.hid hv
    have hoa : decide (opensC v a q) = true := decide_eq_true (by rw [← hv]; exact opensC_self ca)
    have hob : decide (opensC v b q) = decide (a = b) := by
      rw [← hv]
      by_cases e : a = b
      · subst e; rw [decide_eq_true (opensC_self ca), decide_eq_true rfl]
      · rw [decide_eq_false (opensC_other ca cb e), decide_eq_false e]
    have Hoa := Lib.hid hoa
    have Hob := Lib.hid hob
    clear hv hoa hob ca cb
    go_wp2_with fail
    refine (impl_Commit_is a q v Hv.out _).mono ?_
    rintro e w6 ⟨rfl, rfl⟩
    go_wp2_with fail
    refine (impl_OpenOk v a q true Hoa.out _).mono ?_
    rintro e w6 ⟨rfl, rfl⟩
    go_wp2_with fail
    refine (impl_OpenOk v b q _ Hob.out _).mono ?_
    rintro e w6 ⟨rfl, rfl⟩
    by_cases hab : a = b
    · subst hab
      rw [decide_eq_true rfl]
      go_wp2_with fail
      refine (impl_IsWord_yes v hvw _).mono ?_
      rintro e w6 ⟨rfl, rfl⟩
      go_wp2_with fail
      go_ret
      exact ⟨rfl, hb6⟩
    · have hne : (a == b) = false := beq_eq_false_iff_ne.2 hab
      rw [decide_eq_false hab]
      go_wp2_with fail
      refine (impl_IsWord_yes v hvw _).mono ?_
      rintro e w6 ⟨rfl, rfl⟩
      go_wp2_with fail
      go_ret
      exact ⟨rfl, hb6⟩
end Go.Proofs.Ytedfblgopmiheaa
