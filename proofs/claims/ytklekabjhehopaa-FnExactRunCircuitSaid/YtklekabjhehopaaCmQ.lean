/- Compilation: running a circuit: the program's and the model's. No condition. -/
import Derived.Test.YtklekabjhehopaaProg
import Derived.Test.YtklekabjhehopaaCmP
import Derived.Test.YtklekabjhehopaaCirD
import Derived.Deep.CutBlock
namespace Go.Proofs.Ytklekabjhehopaa
open Go Go.RowKit
theorem runs_dec (z : List Int) (n : Nat) (os : List Int) (I : List (List Int)) : runsC z n os I ↔ evOk z n os (bitsI I) ∧ os.length % 4 = 0 := by
  unfold runsC bitsI
  by_cases h : insOk I
  · rw [if_pos h]
    exact ⟨fun e => ⟨e.2.2, e.1⟩, fun e => ⟨e.2, h, e.1⟩⟩
  · rw [if_neg h]
    exact ⟨fun e => (h e.2.1).elim, fun e => absurd e.1.2.1 (by simp)⟩
theorem bitsI_len (I : List (List Int)) : (bitsI I).length ≤ 80 := by
  unfold bitsI
  by_cases h : insOk I
  · rw [if_pos h, inB_length]
    exact Nat.le_refl _
  · rw [if_neg h]
    simp
set_option maxRecDepth 100000 in
set_option maxHeartbeats 2000000 in
theorem impl_RunCircuit (A0 : Option Addr) (n0 c0 : Nat) (z0 : List Int) (A1 : Option Addr) (n1 c1 : Nat) (z1 : List Int) (A : Option Addr) (n c : Nat) (I : List (List Int)) (w : World) (h0 : Ints w A0 z0) (l0 : z0.length = n0 * 3) (m0 : n0 ≤ 2000000) (h1 : Ints w A1 z1) (l1 : z1.length = n1) (m1 : n1 ≤ 2000000) (h2 : Rows w.heap.size w A I) (l2 : I.length = n) (hn : n ≤ 1999999) :
    Calls Try.prog 14 #[.agg #[.slice A0 n0 c0, .slice A1 n1 c1], .slice A n c] w (Post_A_bool (runC z0 n0 z1 I) (decide (runsC z0 n0 z1 I)) w) := by
  have al := below_alloc w (.cells #[.slice A0 n0 c0, .slice A1 n1 c1] 31)
  have b0 := heap_alloc_new w (.cells #[.slice A0 n0 c0, .slice A1 n1 c1] 31)
  have i0 := h0.bound.below al
  have i1 := h1.bound.below al
  have r2 := h2.next al
  have sz : w.heap.size ≤ (w.alloc (.cells #[.slice A0 n0 c0, .slice A1 n1 c1] 31)).heap.size := al.size
  go_enter Try.func14, Try.ntmps14
  go_wp2_with fail
  generalize w.alloc (.cells #[.slice A0 n0 c0, .slice A1 n1 c1] 31) = w0 at *
  obtain ⟨x0, -⟩ := blk (i := 0) b0 rfl
  obtain ⟨x1, -⟩ := blk (i := 1) b0 rfl
  go_cut [6, 7] (fun s t wx => ∃ (A5 : Option Addr) (k5 c5 : Nat), s = .slice A5 k5 c5 ∧ t = .bool (decide (evOk z0 n0 z1 (bitsI I))) ∧ k5 = (evC z0 n0 z1 (bitsI I)).length ∧ Ints wx A5 (evC z0 n0 z1 (bitsI I)) ∧ Below w0.heap.size w0 wx)
  case first =>
    have d0 : w0.drew.cell? ⟨w.heap.size, 0, none⟩ = some (.slice A0 n0 c0) := x0
    have d1 : w0.drew.cell? ⟨w.heap.size, 1, none⟩ = some (.slice A1 n1 c1) := x1
    have rd := r2.drew
    have rfl0 : Below w0.heap.size w0 w0.drew := (Below.refl _ _).drew
    have bl := bitsI_len I
    go_region_held3 (fun w' => w'.cell? ⟨w.heap.size, 0, none⟩ = some (.slice A0 n0 c0) ∧ w'.cell? ⟨w.heap.size, 1, none⟩ = some (.slice A1 n1 c1)) (first | exact ⟨x0, x1⟩ | exact ⟨y0, y1⟩ | exact ⟨z0', z1'⟩) (first
      | (go_at_call 18; (with_reducible refine (impl_InputBits A n c I _ rd l2 hn).mono ?_); rintro e w2 ⟨Ab, kb, cb, rfl, ob, hb2⟩; (have y0 := cell_on d0 hb2); (have y1 := cell_on d1 hb2); (have b2 := rfl0.trans (hb2.mono rfl0.size)); (have j0 := (i0.below (b2.mono sz)).ints (Nat.le_trans sz b2.size)); (have j1 := (i1.below (b2.mono sz)).ints (Nat.le_trans sz b2.size)); (have lb := ob.len1); (have ib := ob.ints))
      | (go_at_call 54; (with_reducible refine (impl_EvalCircuit A0 n0 c0 z0 A1 n1 c1 z1 Ab kb cb (bitsI I) _ j0 l0 (by omega) j1 l1 (by omega) ib lb (by omega)).mono ?_); rintro e w3 ⟨A5, k5, c5, rfl, o5, hb3⟩; (have z0' := cell_on y0 hb3); (have z1' := cell_on y1 hb3)))
    all_goals
      have L5 := Lib.hid (And.intro o5.len1 (And.intro o5.ints (b2.trans (hb3.mono b2.size))))
      clear o5 hb3 ib j0 j1 y0 y1 z0' z1' hb2 ob lb
      go_wp2_with fail
      go_meet
      exact ⟨A5, k5, c5, rfl, rfl, L5.out.1.symm, L5.out.2.1, L5.out.2.2⟩
  case rest =>
    obtain ⟨A5, k5, c5, rfl, rfl, e5, i5, b5⟩ := hcut
    have bw := heap_below b0 b5
    obtain ⟨y0, -⟩ := blk (i := 0) bw rfl
    obtain ⟨y1, -⟩ := blk (i := 1) bw rfl
    have HW := Lib.hid (al.trans (b5.mono sz))
    have HS := Lib.hid (Nat.le_trans sz b5.size)
    have cR := runs_dec z0 n0 z1 I
    by_cases hev : evOk z0 n0 z1 (bitsI I)
    case neg =>
      rw [decide_eq_false hev]
      have E := Lib.hid (And.intro (show runC z0 n0 z1 I = [] from if_neg (fun e => hev (cR.1 e).1)) (decide_eq_false (fun e : runsC z0 n0 z1 I => hev (cR.1 e).1)))
      clear cR hev i5 i0 i1 h0 h1 h2 r2 b0 bw
      go_wp2_with fail
      go_ret2
      rw [E.out.1, E.out.2]
      exact ⟨none, 0, 0, rfl, OwnA.nil _ _ _ _, HW.out⟩
    rw [decide_eq_true hev]
    by_cases h4 : n1 % 4 = 0
    case neg =>
      have ht : ¬ (n1 : Int).tmod 4 = 0 := by rw [Int.tmod_eq_emod_of_nonneg (by omega)]; omega
      have E := Lib.hid (And.intro (show runC z0 n0 z1 I = [] from if_neg (fun e => h4 (by rw [← l1]; exact (cR.1 e).2))) (decide_eq_false (fun e : runsC z0 n0 z1 I => h4 (by rw [← l1]; exact (cR.1 e).2))))
      clear cR hev i5 i0 i1 h0 h1 h2 r2 b0 bw
      go_wp2_with fail
      go_ret2
      rw [E.out.1, E.out.2]
      exact ⟨none, 0, 0, rfl, OwnA.nil _ _ _ _, HW.out⟩
    have ht : (n1 : Int).tmod 4 = 0 := by rw [Int.tmod_eq_emod_of_nonneg (by omega)]; omega
    have hr := cR.2 ⟨hev, by rw [l1]; exact h4⟩
    obtain ⟨u0, u1, u2⟩ := runC_yes hr
    have E := Lib.hid (And.intro (show runC z0 n0 z1 I = wordsI (evC z0 n0 z1 (bitsI I)) by rw [u0, ← u2, ← u1]) (decide_eq_true hr))
    have le : (evC z0 n0 z1 (bitsI I)).length = n1 := by rw [evC, if_pos hev, outV_length, l1]
    have e6 : k5 = n1 := by rw [e5, le]
    subst e6
    have cW := impl_WordsOf A5 k5 c5 (evC z0 n0 z1 (bitsI I)) wc i5 le (by omega)
    clear cR hev i5 i0 i1 h0 h1 h2 r2 b0 bw hr u0 u1 u2 le e5
    go_wp2_with fail
    refine cW.mono ?_
    rintro e w6 ⟨A6, k6, c6, rfl, o6, hb6⟩
    have O := Lib.hid (And.intro (o6.wide HS.out (Nat.le_refl _)) (HW.out.trans (hb6.mono HS.out)))
    clear o6 hb6 cW
    go_wp2_with fail
    go_ret2
    rw [E.out.1, E.out.2]
    exact ⟨A6, k6, c6, rfl, O.out.1, O.out.2⟩
set_option maxRecDepth 100000 in
set_option maxHeartbeats 2000000 in
theorem spec_RunCircuit (A0 : Option Addr) (n0 c0 : Nat) (z0 : List Int) (A1 : Option Addr) (n1 c1 : Nat) (z1 : List Int) (A : Option Addr) (n c : Nat) (I : List (List Int)) (w : World) (h0 : Ints w A0 z0) (l0 : z0.length = n0 * 3) (m0 : n0 ≤ 2000000) (h1 : Ints w A1 z1) (l1 : z1.length = n1) (m1 : n1 ≤ 2000000) (h2 : Rows w.heap.size w A I) (l2 : I.length = n) (hn : n ≤ 1999999) :
    Calls Try.prog 39 #[.agg #[.slice A0 n0 c0, .slice A1 n1 c1], .slice A n c] w (Post_A_bool (runC z0 n0 z1 I) (decide (runsC z0 n0 z1 I)) w) := by
  have al := below_alloc w (.cells #[.slice A0 n0 c0, .slice A1 n1 c1] 31)
  have b0 := heap_alloc_new w (.cells #[.slice A0 n0 c0, .slice A1 n1 c1] 31)
  have i0 := h0.bound.below al
  have i1 := h1.bound.below al
  have r2 := h2.next al
  have sz : w.heap.size ≤ (w.alloc (.cells #[.slice A0 n0 c0, .slice A1 n1 c1] 31)).heap.size := al.size
  have cR := runs_dec z0 n0 z1 I
  by_cases h4 : n1 % 4 = 0
  case neg =>
    have ht : ¬ (n1 : Int).tmod 4 = 0 := by rw [Int.tmod_eq_emod_of_nonneg (by omega)]; omega
    have E := Lib.hid (And.intro (show runC z0 n0 z1 I = [] from if_neg (fun e => h4 (by rw [← l1]; exact e.1))) (decide_eq_false (fun e : runsC z0 n0 z1 I => h4 (by rw [← l1]; exact e.1))))
    clear cR h0 h1 h2 r2 b0 i0 i1
    go_enter Try.func39, Try.ntmps39
    go_wp2_with fail
    go_returns
    rw [E.out.1, E.out.2]
    exact ⟨some ⟨(w.alloc (.cells #[.slice A0 n0 c0, .slice A1 n1 c1] 31)).heap.size, 0, none⟩, 0, 0, by simp, OwnA.of_own (World.ownsRow_made (e := 3) (size := 1) (base := w.heap.size) (w.alloc (.cells #[.slice A0 n0 c0, .slice A1 n1 c1] 31)) #[] 0 sz (by unfold maxLen; omega) rfl), low_alloc al _⟩
  have ht : (n1 : Int).tmod 4 = 0 := by rw [Int.tmod_eq_emod_of_nonneg (by omega)]; omega
  by_cases hin : insOk I
  case neg =>
    have cI := spec_InputsOk A n c I false (decide_eq_false hin) (w.alloc (.cells #[.slice A0 n0 c0, .slice A1 n1 c1] 31)) r2 l2 (by omega)
    have E := Lib.hid (And.intro (show runC z0 n0 z1 I = [] from if_neg (fun e => hin e.2.1)) (decide_eq_false (fun e : runsC z0 n0 z1 I => hin e.2.1)))
    clear cR h0 h1 h2 r2 b0 i0 i1 hin
    go_enter Try.func39, Try.ntmps39
    go_wp2_with fail
    refine cI.mono ?_
    rintro e w9 ⟨rfl, rfl⟩
    clear cI
    go_wp2_with fail
    go_returns
    rw [E.out.1, E.out.2]
    exact ⟨some ⟨(w.alloc (.cells #[.slice A0 n0 c0, .slice A1 n1 c1] 31)).heap.size, 0, none⟩, 0, 0, by simp, OwnA.of_own (World.ownsRow_made (e := 3) (size := 1) (base := w.heap.size) (w.alloc (.cells #[.slice A0 n0 c0, .slice A1 n1 c1] 31)) #[] 0 sz (by unfold maxLen; omega) rfl), low_alloc al _⟩
  have cI := spec_InputsOk A n c I true (decide_eq_true hin) (w.alloc (.cells #[.slice A0 n0 c0, .slice A1 n1 c1] 31)) r2 l2 (by omega)
  go_enter Try.func39, Try.ntmps39
  go_wp2_with fail
  generalize w.alloc (.cells #[.slice A0 n0 c0, .slice A1 n1 c1] 31) = w0 at *
  obtain ⟨x0, -⟩ := blk (i := 0) b0 rfl
  obtain ⟨x1, -⟩ := blk (i := 1) b0 rfl
  refine cI.mono ?_
  rintro e w9 ⟨rfl, rfl⟩
  clear cI
  go_wp2_with fail
  go_cut [6, 7] (fun s t wx => ∃ (A5 : Option Addr) (k5 c5 : Nat), s = .slice A5 k5 c5 ∧ t = .bool (decide (evOk z0 n0 z1 (bitsI I))) ∧ k5 = (evC z0 n0 z1 (bitsI I)).length ∧ Ints wx A5 (evC z0 n0 z1 (bitsI I)) ∧ Below w0.heap.size w0 wx)
  case first =>
    have d0 : w0.drew.cell? ⟨w.heap.size, 0, none⟩ = some (.slice A0 n0 c0) := x0
    have d1 : w0.drew.cell? ⟨w.heap.size, 1, none⟩ = some (.slice A1 n1 c1) := x1
    have rd := r2.drew
    have rfl0 : Below w0.heap.size w0 w0.drew := (Below.refl _ _).drew
    have bl := bitsI_len I
    go_region_held3 (fun w' => w'.cell? ⟨w.heap.size, 0, none⟩ = some (.slice A0 n0 c0) ∧ w'.cell? ⟨w.heap.size, 1, none⟩ = some (.slice A1 n1 c1)) (first | exact ⟨x0, x1⟩ | exact ⟨y0, y1⟩ | exact ⟨z0', z1'⟩) (first
      | (go_at_call 21; (with_reducible refine (spec_InputBits A n c I _ rd l2 hn).mono ?_); rintro e w2 ⟨Ab, kb, cb, rfl, ob, hb2⟩; (have y0 := cell_on d0 hb2); (have y1 := cell_on d1 hb2); (have b2 := rfl0.trans (hb2.mono rfl0.size)); (have j0 := (i0.below (b2.mono sz)).ints (Nat.le_trans sz b2.size)); (have j1 := (i1.below (b2.mono sz)).ints (Nat.le_trans sz b2.size)); (have lb := ob.len1); (have ib := ob.ints))
      | (go_at_call 71; (with_reducible refine (spec_EvalCircuit A0 n0 c0 z0 A1 n1 c1 z1 Ab kb cb (bitsI I) _ j0 l0 (by omega) j1 l1 (by omega) ib lb (by omega)).mono ?_); rintro e w3 ⟨A5, k5, c5, rfl, o5, hb3⟩; (have z0' := cell_on y0 hb3); (have z1' := cell_on y1 hb3)))
    all_goals
      have L5 := Lib.hid (And.intro o5.len1 (And.intro o5.ints (b2.trans (hb3.mono b2.size))))
      clear o5 hb3 ib j0 j1 y0 y1 z0' z1' hb2 ob lb
      go_wp2_with fail
      go_meet
      exact ⟨A5, k5, c5, rfl, rfl, L5.out.1.symm, L5.out.2.1, L5.out.2.2⟩
  case rest =>
    obtain ⟨A5, k5, c5, rfl, rfl, e5, i5, b5⟩ := hcut
    have bw := heap_below b0 b5
    obtain ⟨y0, -⟩ := blk (i := 0) bw rfl
    obtain ⟨y1, -⟩ := blk (i := 1) bw rfl
    have HW := Lib.hid (al.trans (b5.mono sz))
    have HS := Lib.hid (Nat.le_trans sz b5.size)
    by_cases hev : evOk z0 n0 z1 (bitsI I)
    case neg =>
      rw [decide_eq_false hev]
      have E := Lib.hid (And.intro (show runC z0 n0 z1 I = [] from if_neg (fun e => hev (cR.1 e).1)) (decide_eq_false (fun e : runsC z0 n0 z1 I => hev (cR.1 e).1)))
      clear cR hev i5 i0 i1 h0 h1 h2 r2 b0 bw
      go_wp2_with fail
      go_returns
      rw [E.out.1, E.out.2]
      exact ⟨_, 0, 0, rfl, OwnA.of_own (World.ownsRow_made (e := 3) (size := 1) (base := w.heap.size) wc #[] 0 HS.out (by unfold maxLen; omega) rfl), low_alloc HW.out _⟩
    rw [decide_eq_true hev]
    have hr := cR.2 ⟨hev, by rw [l1]; exact h4⟩
    obtain ⟨u0, u1, u2⟩ := runC_yes hr
    have E := Lib.hid (And.intro (show runC z0 n0 z1 I = wordsI (evC z0 n0 z1 (bitsI I)) by rw [u0, ← u2, ← u1]) (decide_eq_true hr))
    have le : (evC z0 n0 z1 (bitsI I)).length = n1 := by rw [evC, if_pos hev, outV_length, l1]
    have e6 : k5 = n1 := by rw [e5, le]
    subst e6
    have cW := spec_WordsOf A5 k5 c5 (evC z0 n0 z1 (bitsI I)) wc i5 le (by omega)
    clear cR hev i5 i0 i1 h0 h1 h2 r2 b0 bw hr u0 u1 u2 le e5
    go_wp2_with fail
    refine cW.mono ?_
    rintro e w6 ⟨A6, k6, c6, rfl, o6, hb6⟩
    have O := Lib.hid (And.intro (o6.wide HS.out (Nat.le_refl _)) (HW.out.trans (hb6.mono HS.out)))
    clear o6 hb6 cW
    go_wp2_with fail
    go_returns
    rw [E.out.1, E.out.2]
    exact ⟨A6, k6, c6, rfl, O.out.1, O.out.2⟩
end Go.Proofs.Ytklekabjhehopaa
