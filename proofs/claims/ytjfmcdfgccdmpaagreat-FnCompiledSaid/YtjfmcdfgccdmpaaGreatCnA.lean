/- The law FnCompiled: the walk. No condition. -/
import Derived.Test.YtjfmcdfgccdmpaaGreatProg
import Derived.Test.YtjfmcdfgccdmpaaGreatCG
import Derived.Test.YtjfmcdfgccdmpaaGreatCQ
import Derived.Test.YtjfmcdfgccdmpaaGreatDrawI
import Derived.Test.YtjfmcdfgccdmpaaGreatRunP
import Derived.Test.YtjfmcdfgccdmpaaGreatSameI
import Derived.Test.YtjfmcdfgccdmpaaGreatB8
import Derived.Deep.RegionHeld3
namespace Go.Proofs.YtjfmcdfgccdmpaaGreat
open Go Go.RowKit
set_option maxHeartbeats 2000000 in
set_option maxRecDepth 100000 in
theorem FnCompiled_walk (A : Option Addr) (n c : Nat) (w : World) (hb : Bytes w.heap.size w A n) (hm : n ≤ 9223372036854775807) :
    Calls Tryz.prog 3 #[.slice A n c] w fun e w' => e = .returned (.bool true) ∧ Below w.heap.size w w' := by
  by_cases hn : 1048576 < n
  · go_enter Tryz.func3, Tryz.ntmps3
    go_wp2_with fail
    refine (big_any A n c w true (by simpa using hn) hm).mono ?_
    rintro e w1 ⟨rfl, rfl⟩
    go_wp2_with fail
    go_ret
    exact ⟨rfl, Below.refl _ _⟩
  have hn' : n ≤ 1048576 := by omega
  go_enter Tryz.func3, Tryz.ntmps3
  go_wp2_with fail
  refine (big_any A n c w false (by simpa using hn') hm).mono ?_
  rintro e w1 ⟨rfl, rfl⟩
  go_wp2_with fail
  refine (DrawRun_any A n c w hb (by omega)).mono ?_
  intro e w1 h
  obtain ⟨A1, m1, c1, ss, A2, c2, I, rfl, hl, hP, i1, hI, r1, low⟩ := h
  have hp := hP.prog
  have m30 : m1 ≤ 2000000 := by have := hP.len; omega
  have Hl := Lib.hid hl
  have HI := Lib.hid hI.1
  have cC := impl_Compile A1 m1 c1 ss w1 i1 Hl.out m30
  have cR := fun W => spec_RunProgram A1 m1 c1 ss A2 5 c2 I W
  have cS := fun W => impl_UnrolledSize A1 m1 c1 ss W
  have cO := fun W => impl_OutputCount A1 m1 c1 ss W
  rw [show sizeI ss = ((unrollL ss).length : Int) from if_pos hp] at cS
  by_cases hu : unrI ss
  case neg =>
    have h120 : ¬ (unrollL ss).length ≤ 120 := fun h => hu ⟨hp, h⟩
    rw [decide_eq_false hu] at cC
    rw [show runI ss I = [] from if_neg (fun e => hu e.1), decide_eq_false (fun e => hu e.1)] at cR
    generalize (unrollL ss).length = z at *
    have z0 : (120 : Int) < z := by omega
    clear hu hp hP cO hl h120 hn hm hb hn' hI
    go_wp2_with fail
    refine cC.mono ?_
    rintro e w2 ⟨B0, B1, k0, k1, d0, d1, rfl, -, hb2⟩
    have hb3 := low_alloc hb2 (.cells #[.slice B0 k0 d0, .slice B1 k1 d1] 31)
    have i3 := Ints.below i1 hb3
    have r3 := r1.next hb3
    have low3 := low.trans (hb3.mono low.size)
    clear hb2 cC i1 r1
    go_wp2_with fail
    generalize w2.alloc (.cells #[.slice B0 k0 d0, .slice B1 k1 d1] 31) = w3 at *
    refine (cR w3 i3 Hl.out m30 r3 HI.out (by omega)).mono ?_
    rintro e w4 ⟨C, k, cc, rfl, -, hb4⟩
    have i4 := Ints.below i3 hb4
    have low4 := low3.trans (hb4.mono low3.size)
    clear hb4 i3 r3 cR
    go_wp2_with fail
    refine (cS w4 i4 Hl.out m30).mono ?_
    rintro e w5 ⟨rfl, hb5⟩
    go_wp2_with fail
    go_ret
    exact ⟨rfl, low4.trans (hb5.mono low4.size)⟩
  have hro : runOk ss I := ⟨hu, hI⟩
  obtain ⟨mg, g1, g2, g3, g4, g5, g6⟩ := cmp_run hro
  have cQ := fun (B0 : Option Addr) (d0 : Nat) (B1 : Option Addr) (n1 d1 : Nat) W => impl_RunCircuit B0 mg d0 (cmpI ss).1 B1 n1 d1 (cmpI ss).2 A2 5 c2 I W
  rw [decide_eq_true hu] at cC
  rw [decide_eq_true hro] at cR
  rw [decide_eq_true g5, g6] at cQ
  rw [show outsI ss = (outs (unrollL ss) : Int) from if_pos hu] at cO
  have hz : outs (unrollL ss) ≤ 120 := Nat.le_trans (outs_le (unrollL ss)) hu.2
  have cK := fun (B0 : Option Addr) (d0 : Nat) (B1 : Option Addr) (n1 d1 : Nat) W => impl_CircuitOk B0 mg d0 (cmpI ss).1 B1 n1 d1 (cmpI ss).2 true (decide_eq_true g3) W
  have hrl := runI_length ss I
  generalize runI ss I = R at *
  generalize outs (unrollL ss) = q at *
  generalize (cmpI ss).1 = z at *
  generalize (cmpI ss).2 = os at *
  clear hu hp hP hl hn hm hb hn' hI hro g5 g6 cS g3
  go_wp2_with fail
  refine cC.mono ?_
  rintro e w2 ⟨B0, B1, k0, k1, d0, d1, rfl, oC, hb2⟩
  have hb3 := low_alloc hb2 (.cells #[.slice B0 k0 d0, .slice B1 k1 d1] 31)
  have i3 := Ints.below i1 hb3
  have r3 := r1.next hb3
  have low3 := low.trans (hb3.mono low.size)
  have b3 := heap_alloc_new w2 (.cells #[.slice B0 k0 d0, .slice B1 k1 d1] 31)
  have oC3 := oC.alloc (.cells #[.slice B0 k0 d0, .slice B1 k1 d1] 31)
  have e0 : k0 = mg := by have := oC.o0.len; omega
  have e1 : k1 = 4 * q := by have := oC.o1.len; omega
  subst e0
  rw [← e1] at g4
  have hw : IntKind.i64.wrap (4 * (q : Int)) = (k1 : Int) := by rw [IntKind.wrap_i64]; omega
  have hk1 : k1 ≤ 480 := by omega
  clear hb2 cC oC i1 r1 e1
  go_wp2_with fail
  generalize w2.alloc (.cells #[.slice B0 k0 d0, .slice B1 k1 d1] 31) = w3 at *
  generalize w2.heap.size = gb at *
  refine (cR w3 i3 Hl.out m30 r3 HI.out (by omega)).mono ?_
  rintro e w4 ⟨C, k, cc, rfl, oR, hb4⟩
  have hk := oR.len1
  have iC := oR.ints
  have i4 := Ints.below i3 hb4
  have r4 := r3.next hb4
  have b4 := heap_below b3 hb4
  have oC4 := oC3.below hb4
  have low4 := low3.trans (hb4.mono low3.size)
  have x0 := (blk (i := 0) b4 rfl).1
  have x1 := (blk (i := 1) b4 rfl).1
  have j0 := oC4.o0.ints
  have j1 := oC4.o1.ints
  clear hb4 oR i3 r3 b3 oC3 cR
  go_wp2_with fail
  refine (cQ B0 d0 B1 k1 d1 w4 j0 g2 (by omega) j1 g4 (by omega) r4 HI.out (by omega)).mono ?_
  rintro e w5 ⟨D, kd, cd, rfl, oD, hb5⟩
  have hkd := oD.len1
  have iD : Ints w5.drew D R := oD.ints
  have iC5 : Ints w5.drew C R := Ints.below iC hb5.drew
  have i5 : Ints w5.drew A1 (flat ss) := Ints.below i4 hb5.drew
  have b5 := heap_below b4 hb5
  have oC5 := oC4.below hb5
  have low5 := (low4.trans (hb5.mono low4.size)).drew
  have y0 : w5.drew.cell? ⟨gb, 0, none⟩ = some (.slice B0 k0 d0) := (blk (i := 0) b5 rfl).1
  have y1 : w5.drew.cell? ⟨gb, 1, none⟩ = some (.slice B1 k1 d1) := (blk (i := 1) b5 rfl).1
  have j0 : Ints w5.drew B0 z := oC5.o0.ints
  have j1 : Ints w5.drew B1 os := oC5.o1.ints
  have e3 : kd = k := by omega
  subst e3
  clear hb5 oD i4 r4 b4 oC4 cQ x0 x1 iC
  go_wp2_with fail
  go_region_held3 (fun w' => w'.cell? ⟨gb, 0, none⟩ = some (.slice B0 k0 d0) ∧ w'.cell? ⟨gb, 1, none⟩ = some (.slice B1 k1 d1)) (first | exact ⟨y0, y1⟩ | exact ⟨z0, z1⟩ | exact ⟨u0, u1⟩ | exact ⟨v0, v1⟩) (first
    | (go_at_call 10; (with_reducible refine (sameInts_same kd cc cd C D R _ iC5 iD hkd (by omega)).mono ?_); rintro e w6 ⟨rfl, hb6⟩; (have z0 := cell_on y0 hb6); (have z1 := cell_on y1 hb6); (have j06 := Ints.below j0 hb6); (have j16 := Ints.below j1 hb6); (have i6 := Ints.below i5 hb6); (have low6 := low5.trans (hb6.mono low5.size)))
    | (go_at_call 11; (with_reducible refine (cK B0 d0 B1 k1 d1 _ j06 g2 (by omega) j16 g4 (by omega)).mono ?_); rintro e w7 ⟨rfl, hb7⟩; (have u0 := cell_on z0 hb7); (have u1 := cell_on z1 hb7); (have i7 := Ints.below i6 hb7); (have low7 := low6.trans (hb7.mono low6.size)))
    | (go_at_call 12; (with_reducible refine (cO _ i7 Hl.out m30).mono ?_); rintro e w8 ⟨rfl, hb8⟩; (have v0 := cell_on u0 hb8); (have v1 := cell_on u1 hb8); (have low8 := low7.trans (hb8.mono low7.size))))
  all_goals
    go_wp2_with fail
    go_ret
    exact ⟨rfl, low8⟩
end Go.Proofs.YtjfmcdfgccdmpaaGreat
