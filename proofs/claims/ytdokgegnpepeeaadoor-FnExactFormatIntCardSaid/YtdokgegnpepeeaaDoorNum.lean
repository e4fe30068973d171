/- FormatInt and ParseUint and their models. -/
import Derived.Test.YtdokgegnpepeeaaDoorProg
import Derived.Test.YtdokgegnpepeeaaDoorDraw
import Derived.Test.YtdokgegnpepeeaaDoorDigs
import Derived.Test.YtdokgegnpepeeaaDoorShelf
import Derived.Test.YtdokgegnpepeeaaDoorEnv
namespace Go.Proofs.YtdokgegnpepeeaaDoor
open Go Go.RowKit
theorem below_growN (w : World) (k : Nat) (os : Array Obj) : Below w.heap.size w (Sort.grow (w.drewN k) os) :=
  ⟨rfl, rfl, rfl, by show _ ≤ (w.heap ++ os).size; simp, fun i hi => by show (w.heap ++ os)[i]? = _; rw [Array.getElem?_append_left hi]⟩
theorem impl_FormatInt (n : Int) (hn : inI64 n) (w : World) (ht : TabOk w) :
    Calls Tryd.prog 11 #[.int .i64 n] w fun e w' => e = .returned (.string ⟨(Lib.itoa n).toArray⟩) ∧ Below w.heap.size w w' := by
  go_enter Tryd.func11, Tryd.ntmps11
  go_wp2_with fail
  refine (Tryd.strconv_Itoa n hn.1 hn.2 w ht).mono ?_
  rintro e w1 ⟨rfl, k, os, rfl⟩
  go_wp2_with fail
  go_ret
  exact ⟨rfl, below_growN w k os⟩
theorem figB_dch {d : Nat} (h : d < 10) : figB d = dch d := by unfold figB dch; rw [if_pos h]
theorem Figure_dch (d : Nat) (hd : d < 10) (x : Int) (hx : x = (d : Int)) (w : World) :
    Calls Tryd.prog 32 #[.int .i64 x] w fun e w' => e = .returned (.int .u8 ((dch d).toNat : Int)) ∧ w = w' := by
  subst hx
  have h := l01Figure_any (d : Int) (by omega) (by omega) w
  rw [Int.toNat_natCast, figB_dch hd] at h
  exact h
theorem nDigits_div {u : Nat} (h : ¬ u < 10) : Lib.nDigits u = Lib.nDigits (u / 10) + 1 := Lib.nDigits_big h
/-- What is left to write, and what is written: at most twenty figures. -/
def Room (u k : Nat) : Prop := u < 10 ^ (19 - k) ∧ k ≤ 19
theorem room_step {u k : Nat} (h : Room u k) (hu : 0 < u) : Room (u / 10) (k + 1) := by
  obtain ⟨h1, h2⟩ := h
  have h3 : k ≠ 19 := by
    rintro rfl
    simp at h1; omega
  refine ⟨?_, by omega⟩
  have e : 19 - k = (19 - (k + 1)) + 1 := by omega
  rw [e, Nat.pow_succ] at h1
  omega
theorem digs_next {n u : Nat} {s : ByteArray} (hu : 0 < u) (hd : digs u ++ s.data.toList = digs n) : digs (u / 10) ++ (({ data := #[dch (u % 10)] } : ByteArray) ++ s).data.toList = digs n := by
  rw [← hd, digs_step u hu]; simp
theorem size_next (c : UInt8) (s : ByteArray) : (({ data := #[c] } : ByteArray) ++ s).size = 1 + s.size := by rw [ByteArray.size_append]; rfl
set_option maxRecDepth 100000 in
theorem spec_FormatInt_pos (n : Nat) (hn : (n : Int) ≤ 9223372036854775807) (h0 : 0 < n) (w : World) :
    Calls Tryd.prog 19 #[.int .i64 (n : Int)] w fun e w' => e = .returned (.string ⟨(Lib.itoa (n : Int)).toArray⟩) ∧ Below w.heap.size w w' := by
  have g0 : ((n : Int) == 0) = false := by simp; omega
  have g1 : decide ((n : Int) < 0) = false := by simp
  have r0 : Room n 0 := ⟨by omega, by omega⟩
  have R0 := Lib.hid r0
  have Hn := Lib.hid hn
  clear r0 hn
  go_enter Tryd.func19, Tryd.ntmps19
  go_wp2_with fail
  go_loopw [0, 4] (fun a t wr => ∃ (u : Nat) (s : ByteArray), u ≤ n ∧ a = .int .i64 (u : Int) ∧ t = .string s ∧ Hid (digs u ++ s.data.toList = digs n) ∧ s.size ≤ 19 ∧ Room u s.size ∧ Below w.heap.size w wr) (fun a _ _ => (intOf a).toNat)
  case atStart => exact ⟨n, _, Nat.le_refl _, rfl, rfl, (by show digs n ++ [] = digs n; simp), (by show 0 ≤ 19; omega), R0.out, Below.refl _ _⟩
  case round =>
    obtain ⟨u, s, hu, rfl, rfl, hd, hs, hl, hb⟩ := hrel
    have hbs := hb.size
    have hu2 : (u : Int) ≤ 9223372036854775807 := by have := Hn.out; omega
    by_cases hz : u = 0
    · subst hz
      have hfin : s = ⟨(Lib.itoa (n : Int)).toArray⟩ := by
        apply WideShapes.bytes_inj
        have hd' := hd.out
        rw [digs_zero, List.nil_append] at hd'
        rw [hd', itoa_nat, digs_dec n h0]
      subst hfin
      go_wp2_with fail
      go_ret
      exact ⟨rfl, hb⟩
    · have hp : 0 < u := by omega
      have hz1 : ((u : Int) != 0) = true := by simp; omega
      have hn1 := Lib.hid (digs_next hp hd.out)
      have hs1 := Lib.hid (size_next (dch (u % 10)) s)
      have hr1 := Lib.hid (room_step hl hp)
      have hcv := conv_one (P := Tryd.prog) (w := wr) (src := 22) (dst := 9) (c := dch (u % 10)) Tryd.underlying22 Tryd.underlying5 Tryd.underlying9 rfl
      go_wp2_with fail
      refine (Figure_dch (u % 10) (by omega) _ (by omega) wr).mono ?_
      rintro e w1 ⟨rfl, rfl⟩
      go_wp2_with fail
      go_roundw
      case rel => exact ⟨u / 10, _, by omega, by go_num, rfl, hn1.out, by rw [hs1.out]; have := hr1.out.2; omega, by rw [hs1.out, Nat.add_comm]; exact hr1.out, hb.alloc hbs _⟩
      case measure => simp [intOf]; omega
theorem tmod_neg (u : Nat) : (-(u : Int)).tmod 10 = -((u % 10 : Nat) : Int) := by rw [Int.neg_tmod, Int.tmod_eq_emod_of_nonneg (by omega)]; omega
theorem tdiv_neg (u : Nat) : (-(u : Int)).tdiv 10 = -((u / 10 : Nat) : Int) := by rw [Int.neg_tdiv, Int.tdiv_eq_ediv_of_nonneg (by omega)]; omega
set_option maxRecDepth 100000 in
theorem spec_FormatInt_neg (n : Nat) (hn : n ≤ 9223372036854775808) (h0 : 0 < n) (w : World) :
    Calls Tryd.prog 19 #[.int .i64 (-(n : Int))] w fun e w' => e = .returned (.string ⟨(Lib.itoa (-(n : Int))).toArray⟩) ∧ Below w.heap.size w w' := by
  have g0 : (-(n : Int) == 0) = false := by simp; omega
  have g1 : decide (-(n : Int) < 0) = true := by simp; omega
  have r0 : Room n 0 := ⟨by omega, by omega⟩
  have R0 := Lib.hid r0
  have Hn := Lib.hid hn
  clear r0 hn
  go_enter Tryd.func19, Tryd.ntmps19
  go_wp2_with fail
  go_loopw [0, 4] (fun a t wr => ∃ (u : Nat) (s : ByteArray), u ≤ n ∧ a = .int .i64 (-(u : Int)) ∧ t = .string s ∧ Hid (digs u ++ s.data.toList = digs n) ∧ s.size ≤ 19 ∧ Room u s.size ∧ Below w.heap.size w wr) (fun a _ _ => (-(intOf a)).toNat)
  case atStart => exact ⟨n, _, Nat.le_refl _, rfl, rfl, (by show digs n ++ [] = digs n; simp), (by show 0 ≤ 19; omega), R0.out, Below.refl _ _⟩
  case round =>
    obtain ⟨u, s, hu, rfl, rfl, hd, hs, hl, hb⟩ := hrel
    have hbs := hb.size
    have hu2 : (u : Int) ≤ 9223372036854775808 := by have := Hn.out; omega
    by_cases hz : u = 0
    · subst hz
      have hfin : (({ data := #[45] } : ByteArray) ++ s) = ⟨(Lib.itoa (-(n : Int))).toArray⟩ := by
        apply WideShapes.bytes_inj
        have hd' := hd.out
        rw [digs_zero, List.nil_append] at hd'
        rw [Lib.itoa_neg n h0, ← digs_dec n h0, ← hd']; simp
      have Hfin := Lib.hid hfin
      clear hfin
      go_wp2_with fail
      go_ret
      exact ⟨by simp only [Array.getD]; simp [Hfin.out], hb⟩
    · have hp : 0 < u := by omega
      have hz1 : (-(u : Int) != 0) = true := by simp; omega
      have hn1 := Lib.hid (digs_next hp hd.out)
      have hs1 := Lib.hid (size_next (dch (u % 10)) s)
      have hr1 := Lib.hid (room_step hl hp)
      have hcv := conv_one (P := Tryd.prog) (w := wr) (src := 22) (dst := 9) (c := dch (u % 10)) Tryd.underlying22 Tryd.underlying5 Tryd.underlying9 rfl
      have tm := tmod_neg u
      have td := tdiv_neg u
      have hm10 : u % 10 < 10 := by omega
      have hrange : u / 10 ≤ 922337203685477580 := by have := Hn.out; omega
      generalize u % 10 = m at tm hn1 hs1 hcv hm10
      generalize hq : u / 10 = q at td hn1 hr1 hrange
      have hq1 : q < u := by omega
      have Hq := Lib.hid hq
      clear hq
      by_cases hm0 : m = 0
      · subst hm0
        go_wp2_with fail
        refine (Figure_dch 0 (by omega) _ (by omega) wr).mono ?_
        rintro e w1 ⟨rfl, rfl⟩
        go_wp2_with fail
        go_roundw
        case rel => exact ⟨q, _, by omega, by go_num, rfl, hn1.out, by rw [hs1.out]; have := hr1.out.2; omega, by rw [hs1.out, Nat.add_comm]; exact hr1.out, hb.alloc hbs _⟩
        case measure => simp [intOf]; omega
      · go_wp2_with fail
        refine (Figure_dch m hm10 _ (by omega) wr).mono ?_
        rintro e w1 ⟨rfl, rfl⟩
        go_wp2_with fail
        go_roundw
        case rel => exact ⟨q, _, by omega, by go_num, rfl, hn1.out, by rw [hs1.out]; have := hr1.out.2; omega, by rw [hs1.out, Nat.add_comm]; exact hr1.out, hb.alloc hbs _⟩
        case measure => simp [intOf]; omega
theorem spec_FormatInt_any (n : Int) (hn : inI64 n) (w : World) :
    Calls Tryd.prog 19 #[.int .i64 n] w fun e w' => e = .returned (.string ⟨(Lib.itoa n).toArray⟩) ∧ Below w.heap.size w w' := by
  by_cases h0 : n = 0
  · subst h0
    have e : Lib.itoa 0 = [48] := by unfold Lib.itoa; rw [if_neg (by omega), show (0 : Int).toNat = 0 from rfl, Lib.decDigits_one (by omega)]; rfl
    rw [e]
    go_enter Tryd.func19, Tryd.ntmps19
    go_wp2_with fail
    go_ret
    exact ⟨rfl, Below.refl _ _⟩
  · by_cases h1 : 0 < n
    · obtain ⟨u, rfl⟩ := Int.eq_ofNat_of_zero_le (show 0 ≤ n by omega)
      exact spec_FormatInt_pos u hn.2 (by omega) w
    · obtain ⟨u, hu⟩ := Int.eq_ofNat_of_zero_le (show 0 ≤ -n by omega)
      obtain rfl : n = -(u : Int) := by omega
      exact spec_FormatInt_neg u (by have := hn.1; omega) (by omega) w
theorem FnExactFormatInt_walk (n : Int) (w : World) (hw : (Lit.int .i64 n).wf = true) (ht : TabOk w) (hz : 6 ≤ w.heap.size) :
    Calls Tryd.prog 6 #[.int .i64 n] w fun e w' => e = .returned (.bool true) ∧ Below w.heap.size w w' := by
  have hn := inI64_of hw
  go_enter Tryd.func6, Tryd.ntmps6
  go_wp2_with fail
  refine (spec_FormatInt_any n hn w).mono ?_
  rintro e w1 ⟨rfl, hb1⟩
  go_wp2_with fail
  refine (impl_FormatInt n hn w1 (ht.below hb1 hz)).mono ?_
  rintro e w2 ⟨rfl, hb2⟩
  go_wp2_with fail
  go_ret
  exact ⟨rfl, hb1.trans (hb2.mono hb1.size)⟩
end Go.Proofs.YtdokgegnpepeeaaDoor
