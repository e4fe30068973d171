/- The law FnPruned: the walk, from the program's contracts. No condition. -/
import Derived.Test.YtegdlegndgdgiaaProg
import Derived.Test.YtegdlegndgdgiaaSmY
import Derived.Test.YtegdlegndgdgiaaSameC
import Derived.Test.YtegdlegndgdgiaaCirI
import Derived.Test.YtegdlegndgdgiaaCirC
import Derived.Test.YtegdlegndgdgiaaCirD
namespace Go.Proofs.Ytegdlegndgdgiaa
open Go Go.RowKit
theorem set_swap (D : List Bool) (a b : Nat) : (D.set b true).set a true = (D.set a true).set b true := by
  by_cases h : a = b
  · subst h
    simp
  · exact List.set_comm _ _ (fun e => h e.symm)
set_option maxHeartbeats 8000000 in
set_option maxRecDepth 100000 in
theorem FnPruned_from (hP : CtoC 51 pruZ pruO) (hL : CtoI 52 livI) (A : Option Addr) (n c : Nat) (w : World) (hb : Bytes w.heap.size w A n) (hm : n ≤ 9223372036854775807) :
    Calls Try.prog 9 #[.slice A n c] w fun e w' => e = .returned (.bool true) ∧ Below w.heap.size w w' := by
  by_cases hn : 1048576 < n
  · go_enter Try.func9, Try.ntmps9
    go_wp2_with fail
    refine (big_any A n c w true (by simpa using hn) hm).mono ?_
    rintro e w1 ⟨rfl, rfl⟩
    go_wp2_with fail
    go_ret
    exact ⟨rfl, Below.refl _ _⟩
  have hn' : n ≤ 1048576 := by omega
  go_enter Try.func9, Try.ntmps9
  go_wp2_with fail
  refine (big_any A n c w false (by simpa using hn') hm).mono ?_
  rintro e w1 ⟨rfl, rfl⟩
  go_wp2_with fail
  refine (DrawCircuit_any A n c w hb (by omega)).mono ?_
  intro e w1 h
  obtain ⟨A0, N, c0, z0, A1, m, c1, z1, A2, c2, bs, rfl, ⟨n1, n24⟩, hm4, hg, hw, hbs, l0, l1, i0, i1, i2, low⟩ := h
  have hcir : cirOk z0 N z1 := ⟨by omega, hg, hw⟩
  have hev : evOk z0 N z1 bs := ⟨hcir, hbs⟩
  obtain ⟨p1, p2, p3, p4, p5⟩ := pru_ok hcir
  have p6 := pru_all hcir
  have ec := p5 bs
  have ek : livI z0 N z1 = (rnk (lv z0 N z1) N : Nat) := if_pos hcir
  have el : (evC z0 N z1 bs).length = m := by rw [show evC z0 N z1 bs = outV (wv z0 bs N) z1 from if_pos hev, outV_length, l1]
  have bx := heap_alloc_new w1 (.cells #[.slice A0 N c0, .slice A1 m c1] 31)
  have low1 := low_alloc low (.cells #[.slice A0 N c0, .slice A1 m c1] 31)
  have j0 := (i0.al (.cells #[.slice A0 N c0, .slice A1 m c1] 31)).bound
  have j1 := (i1.al (.cells #[.slice A0 N c0, .slice A1 m c1] 31)).bound
  have j2 := (i2.al (.cells #[.slice A0 N c0, .slice A1 m c1] 31)).bound
  have cP := fun W k0 k1 => hP A0 N c0 z0 A1 m c1 z1 W k0 l0 (by omega) k1 l1 (by omega)
  have cL := fun W k0 k1 => hL A0 N c0 z0 A1 m c1 z1 W k0 l0 (by omega) k1 l1 (by omega)
  have cE := fun W k0 k1 k2 => spec_EvalCircuit A0 N c0 z0 A1 m c1 z1 A2 80 c2 bs W k0 l0 (by omega) k1 l1 (by omega) k2 hbs.1 (by omega)
  simp only [ek] at cL
  simp only [decide_eq_true hev] at cE
  generalize pruZ z0 N z1 = zx at *
  generalize pruO z0 N z1 = ox at *
  generalize rnk (lv z0 N z1) N = K at *
  generalize evC z0 N z1 bs = E at *
  have HX := Lib.hid p3
  have HA := Lib.hid p6
  have lox : ox.length = m := by omega
  have hevx : evOk zx K ox bs := ⟨p3, hbs⟩
  have cF := fun B0 d0 B1 d1 W k0 k1 k2 => impl_EvalCircuit B0 K d0 zx B1 m d1 ox A2 80 c2 bs W k0 p1 (by omega) k1 lox (by omega) k2 hbs.1 (by omega)
  simp only [decide_eq_true hevx, ec] at cF
  have cO := fun B0 d0 B1 d1 W k0 k1 => spec_CircuitOk B0 K d0 zx B1 m d1 ox true (decide_eq_true p3) W k0 p1 (by omega) k1 lox (by omega)
  have LZ := Lib.hid p1
  have LO := Lib.hid lox
  have EL := Lib.hid el
  clear hcir hev hg hw hbs l0 l1 i0 i1 i2 low hb hm hn hn' p1 p3 p4 p5 p6 ec ek el lox hevx hP hL
  go_wp2_with fail
  generalize w1.alloc (.cells #[.slice A0 N c0, .slice A1 m c1] 31) = w0 at *
  refine (cP w0 (j0.ints (Nat.le_refl _)) (j1.ints (Nat.le_refl _))).mono ?_
  rintro e w2 ⟨B0, B1, q0, q1, d0, d1, rfl, o, hb2⟩
  obtain rfl : q0 = K := by have := o.o0.len; have := LZ.out; omega
  obtain rfl : q1 = m := by have := o.o1.len; have := LO.out; omega
  have bx2 := heap_below bx hb2
  have x0 := (blk (i := 0) (u := .slice A0 N c0) bx2 rfl).1
  have x1 := (blk (i := 1) (u := .slice A1 q1 c1) bx2 rfl).1
  have al := below_alloc w2 (.cells #[.slice B0 q0 d0, .slice B1 q1 d1] 31)
  have bxx := heap_alloc_new w2 (.cells #[.slice B0 q0 d0, .slice B1 q1 d1] 31)
  have bx3 := heap_below bx2 al
  have hb3 := hb2.trans (al.mono hb2.size)
  have k0 := (o.alloc (.cells #[.slice B0 q0 d0, .slice B1 q1 d1] 31)).o0.intsB.more al.size
  have k1 := (o.alloc (.cells #[.slice B0 q0 d0, .slice B1 q1 d1] 31)).o1.intsB.more al.size
  have a0 := (blk (i := 0) (u := .slice A0 N c0) bx3 rfl).1
  have a1 := (blk (i := 1) (u := .slice A1 q1 c1) bx3 rfl).1
  have lw3 := low1.trans (hb3.mono low1.size)
  clear o al hb2 bx2 x0 x1 cP bx low1
  go_wp2_with fail
  generalize w2.alloc (.cells #[.slice B0 q0 d0, .slice B1 q1 d1] 31) = w3 at *
  refine (cE w3 ((j0.below hb3).ints hb3.size) ((j1.below hb3).ints hb3.size) ((j2.below hb3).ints hb3.size)).mono ?_
  rintro e w4 ⟨A4, q4, c4, rfl, oE, hb4⟩
  obtain rfl : q4 = q1 := by have := oE.len1; have := EL.out; omega
  have bx4 := heap_below bx3 hb4
  have bX4 := heap_below bxx hb4
  have b04 := hb3.trans (hb4.mono hb3.size)
  have lw4 := lw3.trans (hb4.mono lw3.size)
  have iE := oE.intsB
  have a0 := (blk (i := 0) (u := .slice B0 q0 d0) bX4 rfl).1
  have a1 := (blk (i := 1) (u := .slice B1 q4 d1) bX4 rfl).1
  clear oE cE bx3 bxx hb3 lw3
  go_wp2_with fail
  refine (cF B0 d0 B1 d1 w4 ((k0.below hb4).ints hb4.size) ((k1.below hb4).ints hb4.size) ((j2.below b04).ints b04.size)).mono ?_
  rintro e w5 ⟨A5, q5, c5, rfl, oF, hb5⟩
  obtain rfl : q5 = q4 := by have := oF.len1; have := EL.out; omega
  have bx5 := heap_below bx4 hb5
  have bX5 := heap_below bX4 hb5
  have b05 := b04.trans (hb5.mono b04.size)
  have b35 := hb4.trans (hb5.mono hb4.size)
  have lw5 := lw4.trans (hb5.mono lw4.size)
  have iF := oF.intsB
  replace iE := iE.below hb5
  have iE5 := iE.more hb5.size
  have a0 := (blk (i := 0) (u := .slice A0 N c0) bx5 rfl).1
  have a1 := (blk (i := 1) (u := .slice A1 q5 c1) bx5 rfl).1
  clear oF cF bx4 bX4 hb4 hb5 b04 lw4 j2 iE
  go_wp2_with fail
  refine (cL w5 ((j0.below b05).ints b05.size) ((j1.below b05).ints b05.size)).mono ?_
  rintro e w6 ⟨rfl, hb6⟩
  have bx6 := heap_below bx5 hb6
  have bX6 := heap_below bX5 hb6
  have b36 := b35.trans (hb6.mono b35.size)
  have a0 := (blk (i := 0) (u := .slice B0 q0 d0) bX6 rfl).1
  have a1 := (blk (i := 1) (u := .slice B1 q5 d1) bX6 rfl).1
  clear cL bx5 bX5 b05 b35
  go_wp2_with fail
  refine (cO B0 d0 B1 d1 w6 ((k0.below b36).ints b36.size) ((k1.below b36).ints b36.size)).mono ?_
  rintro e w7 ⟨rfl, hb7⟩
  have bx7 := heap_below bx6 hb7
  have bX7 := heap_below bX6 hb7
  have b37 := b36.trans (hb7.mono b36.size)
  have b57 := hb6.trans (hb7.mono hb6.size)
  have lw7 := lw5.trans (b57.mono lw5.size)
  have iE7 := (iE5.below b57).more b57.size
  have iF7 := (iF.below b57).more b57.size
  have k07 := (k0.below b37).more b37.size
  have k17 := (k1.below b37).more b37.size
  have x0 := (blk (i := 0) (u := .slice B0 q0 d0) bX7 rfl).1
  have x1 := (blk (i := 1) (u := .slice B1 q5 d1) bX7 rfl).1
  have z0c := (blk (i := 0) (u := .slice A0 N c0) bx7 rfl).1
  clear cO bx6 bX6 b36 hb6 hb7 b37 b57 lw5 iE5 iF k0 k1 a0 a1 j0 j1 bx7 bX7
  generalize w1.heap.size = gC at *
  generalize w2.heap.size = gX at *
  go_wp2_with (first | (refine make_fullI Try.underlying63 infoBool rfl rfl _ _ rfl w7.heap.size _ _ _ _ q0 rfl rfl rfl rfl (by omega) (by unfold maxLen; omega) (Nat.le_refl _) ?_))
  intro w8 hown8 hg8
  have hb8 : Below w7.heap.size w7 w8 := (Below.refl _ _).grown hg8 (Nat.le_refl _) (fun k h => by cases h)
  have S0 := Lib.hid (And.intro (show Flags w7.heap.size w8 w7.heap.size q0 (lvO (ox.take 0) q0) by
    unfold Flags
    rw [List.take_zero, lvO_nil, show boolVs (List.replicate q0 false) = List.replicate q0 (.bool false) by simp [boolVs]]
    exact hown8) hb8)
  have HZ := Lib.hid (show ∀ t, t < q5 → (0 ≤ ox.getD t 0 ∧ ox.getD t 0 < (q0 : Int)) ∧ ox.take (t + 1) = ox.take t ++ [ox.getD t 0] from fun t ht => ⟨HX.out.2.2 _ (gD_mem (by rw [LO.out]; exact ht)), take_snoc (by rw [LO.out]; exact ht)⟩)
  clear hown8 hg8 hb8
  go_wp2_with fail
  go_loopw [12] (fun i wr => ∃ t : Nat, t ≤ q5 ∧ i = .int .i64 t ∧ Flags w7.heap.size wr w7.heap.size q0 (lvO (ox.take t) q0) ∧ Below w7.heap.size w7 wr) (fun i _ => q5 - (intOf i).toNat)
  case atStart => exact ⟨0, Nat.zero_le _, rfl, S0.out.1, S0.out.2⟩
  case round =>
    obtain ⟨t, ht, rfl, fl1, hb⟩ := hrel
    clear S0
    have a1 := cell_on x1 hb
    by_cases hlt : t < q5
    · have t0 : (0 : Int) ≤ t := by omega
      have t1 : (t : Int) < q5 := by omega
      obtain ⟨g1, o1, rfl, hq1, ce⟩ := (k17.below hb).at_ (j := t) (by rw [LO.out]; exact hlt)
      obtain ⟨⟨v0, v1⟩, et⟩ := HZ.out t hlt
      generalize ox.getD t 0 = y at *
      obtain ⟨f0, f1⟩ := fl1.at_ (i := y.toNat) (by omega)
      have H := Lib.hid (show Flags w7.heap.size (wr.setCell ⟨w7.heap.size, y.toNat, none⟩ (.bool true)) w7.heap.size q0 (lvO (ox.take (t + 1)) q0) by
        have := fl1.set y.toNat true
        rw [lvO_snoc _ ⟨v0, v1⟩, ← et] at this
        exact this)
      have HB := Lib.hid (hb.setCell (p := ⟨w7.heap.size, y.toNat, none⟩) (Nat.le_refl _) (.bool true))
      clear fl1 hb et
      go_wp2_with fail
      go_roundw
      case rel => exact ⟨t + 1, by omega, by go_num, H.out, HB.out⟩
      case measure => simp [intOf]; omega
    · obtain rfl : t = q5 := by omega
      rw [List.take_of_length_le (by rw [LO.out]; exact Nat.le_refl _)] at fl1
      have a0 := cell_on x0 hb
      have S1 := Lib.hid (And.intro fl1 hb)
      have hw0 : IntKind.i64.wrap ((q0 : Int) - 1) = (q0 : Int) - 1 := by rw [IntKind.wrap_i64]; omega
      clear fl1 hb
      go_wp2_with fail
      go_loopw [13] (fun i wr => ∃ j : Nat, j ≤ q0 ∧ i = .int .i64 ((q0 : Int) - 1 - (j : Int)) ∧ Flags w7.heap.size wr w7.heap.size q0 (lvN zx q0 ox j) ∧ Below w7.heap.size w7 wr) (fun i _ => ((intOf i) + 1).toNat)
      case atStart => exact ⟨0, Nat.zero_le _, by simp, S1.out.1, S1.out.2⟩
      case round =>
        obtain ⟨j, hj, hi, fl1, hb⟩ := hrel
        clear S1
        have a0 := cell_on x0 hb
        by_cases hlt : j < q0
        · obtain ⟨s, hs⟩ : ∃ s, q0 - 1 - j = s := ⟨_, rfl⟩
          have hsn : s < q0 := by omega
          rw [show (q0 : Int) - 1 - (j : Int) = (s : Int) by omega] at hi
          subst hi
          have t0 : (0 : Int) ≤ s := by omega
          have t1 : (s : Int) < q0 := by omega
          obtain ⟨q, o, rfl, hq0, e0, e1, e2⟩ := gate_cells (k07.below hb) LZ.out hsn
          obtain ⟨r1, r2⟩ := arg_lt HX.out.2.1 hsn
          have ok := HX.out.2.1 s hsn
          have hf : fl (lvN zx q0 ox j) s = true := (lv_last HX.out.2.1 hsn (by omega) (by omega)).2 (HA.out s hsn)
          have HS := Lib.hid (show lvN zx q0 ox (j + 1) = lvS zx (lvN zx q0 ox j) s by rw [lvN, hs])
          have HU := Lib.hid (show lvS zx (lvN zx q0 ox j) s = if fl (lvA zx (lvN zx q0 ox j) s) s = true ∧ two (gk zx s) then (lvA zx (lvN zx q0 ox j) s).set (gb zx s).toNat true else lvA zx (lvN zx q0 ox j) s from rfl)
          have HV := Lib.hid (show lvA zx (lvN zx q0 ox j) s = if fl (lvN zx q0 ox j) s = true ∧ one1 (gk zx s) then (lvN zx q0 ox j).set (ga zx s).toNat true else lvN zx q0 ox j from rfl)
          have hD : (lvN zx q0 ox j).length = q0 := lvN_length zx q0 ox j
          generalize lvA zx (lvN zx q0 ox j) s = D1 at *
          generalize lvS zx (lvN zx q0 ox j) s = D2 at *
          generalize lvN zx q0 ox j = D at *
          generalize gk zx s = k at *
          generalize ga zx s = a at *
          generalize gb zx s = b at *
          have f00 := (fl1.at_ (i := s) hsn).1
          rw [hf] at f00
          have af := below_alloc wr (.cells #[.int .i64 k, .int .i64 a, .int .i64 b] 45)
          have bb := heap_alloc_new wr (.cells #[.int .i64 k, .int .i64 a, .int .i64 b] 45)
          have fl2 := fl1.below af
          have hb2 := hb.trans (af.mono hb.size)
          have hd : IntKind.i64.wrap ((s : Int) - 1) = (s : Int) - 1 := by rw [IntKind.wrap_i64]; omega
          have nq := (World.ownsRow.lt fl1 w7.heap.size rfl).2
          clear fl1 hb
          go_upto_region 21 with (fail)
          generalize wr.alloc (.cells #[.int .i64 k, .int .i64 a, .int .i64 b] 45) = wa at *
          clear f00
          rcases ok with ⟨rfl, ha, rfl⟩ | ⟨rfl, ha, rfl⟩ | ⟨rfl | rfl, ha, hb'⟩ | ⟨rfl, ha, rfl⟩
          · have e1' : D1 = D := by rw [HV.out, if_neg (fun e => by have := e.2; unfold one1 at this; omega)]
            have e2' : D2 = D1 := by rw [HU.out, if_neg (fun e => by have := e.2; unfold two at this; omega)]
            have H := Lib.hid (show Flags w7.heap.size wa w7.heap.size q0 (lvN zx q0 ox (j + 1)) by rw [HS.out, e2', e1']; exact fl2)
            have HB := Lib.hid hb2
            have c0 := (blk (i := 0) (u := .int .i64 1) bb rfl).1
            clear fl2 hb2 e1' e2' HS HU HV bb
            go_wp2_with fail
            go_roundw
            case rel => exact ⟨j + 1, by omega, by go_num, H.out, HB.out⟩
            case measure => simp [intOf]
          · have e1' : D1 = D := by rw [HV.out, if_neg (fun e => by have := e.2; unfold one1 at this; omega)]
            have e2' : D2 = D1 := by rw [HU.out, if_neg (fun e => by have := e.2; unfold two at this; omega)]
            have H := Lib.hid (show Flags w7.heap.size wa w7.heap.size q0 (lvN zx q0 ox (j + 1)) by rw [HS.out, e2', e1']; exact fl2)
            have HB := Lib.hid hb2
            have c0 := (blk (i := 0) (u := .int .i64 2) bb rfl).1
            clear fl2 hb2 e1' e2' HS HU HV bb
            go_wp2_with fail
            go_roundw
            case rel => exact ⟨j + 1, by omega, by go_num, H.out, HB.out⟩
            case measure => simp [intOf]
          · have h2 : two 3 := by unfold two; omega
            have h1 : one1 3 := by unfold one1; omega
            obtain ⟨p0, p1⟩ := r1 h1
            obtain ⟨p2, p3⟩ := r2 h2
            have u1 : a < (q0 : Int) := by omega
            have u2 : b < (q0 : Int) := by omega
            have e1' : D1 = D.set a.toNat true := by rw [HV.out, if_pos ⟨hf, h1⟩]
            have fe : fl D1 s = true := by rw [e1']; exact (fl_set D (by omega)).2 (.inr hf)
            have e2' : D2 = (D.set b.toNat true).set a.toNat true := by rw [HU.out, if_pos ⟨fe, h2⟩, e1', set_swap]
            have fl3 := fl2.set b.toNat true
            have hb3 := hb2.setCell (p := ⟨w7.heap.size, b.toNat, none⟩) (Nat.le_refl _) (.bool true)
            obtain ⟨fa0, fa⟩ := fl2.at_ (i := b.toNat) (by omega)
            have d0 := heap_far bb (p := ⟨w7.heap.size, b.toNat, none⟩) (show wr.heap.size ≠ w7.heap.size by omega) (.bool true)
            have c0 := (blk (i := 0) (u := .int .i64 3) bb rfl).1
            have c2 := (blk (i := 2) (u := .int .i64 b) bb rfl).1
            go_upto_region 23 with (fail)
            generalize wa.setCell ⟨w7.heap.size, b.toNat, none⟩ (.bool true) = wb at *
            have k0' := (blk (i := 0) (u := .int .i64 3) d0 rfl).1
            have k1' := (blk (i := 1) (u := .int .i64 a) d0 rfl).1
            obtain ⟨ga0, ga1⟩ := fl3.at_ (i := a.toNat) (by omega)
            have H := Lib.hid (show Flags w7.heap.size (wb.setCell ⟨w7.heap.size, a.toNat, none⟩ (.bool true)) w7.heap.size q0 (lvN zx q0 ox (j + 1)) by rw [HS.out, e2']; exact fl3.set a.toNat true)
            have HB := Lib.hid (hb3.setCell (p := ⟨w7.heap.size, a.toNat, none⟩) (Nat.le_refl _) (.bool true))
            clear fl2 fl3 hb2 hb3 e1' e2' HS HU HV fe c0 c2 fa0 fa bb d0
            go_wp2_with fail
            go_roundw
            case rel => exact ⟨j + 1, by omega, by go_num, H.out, HB.out⟩
            case measure => simp [intOf]
          · have h2 : two 4 := by unfold two; omega
            have h1 : one1 4 := by unfold one1; omega
            obtain ⟨p0, p1⟩ := r1 h1
            obtain ⟨p2, p3⟩ := r2 h2
            have u1 : a < (q0 : Int) := by omega
            have u2 : b < (q0 : Int) := by omega
            have e1' : D1 = D.set a.toNat true := by rw [HV.out, if_pos ⟨hf, h1⟩]
            have fe : fl D1 s = true := by rw [e1']; exact (fl_set D (by omega)).2 (.inr hf)
            have e2' : D2 = (D.set b.toNat true).set a.toNat true := by rw [HU.out, if_pos ⟨fe, h2⟩, e1', set_swap]
            have fl3 := fl2.set b.toNat true
            have hb3 := hb2.setCell (p := ⟨w7.heap.size, b.toNat, none⟩) (Nat.le_refl _) (.bool true)
            obtain ⟨fa0, fa⟩ := fl2.at_ (i := b.toNat) (by omega)
            have d0 := heap_far bb (p := ⟨w7.heap.size, b.toNat, none⟩) (show wr.heap.size ≠ w7.heap.size by omega) (.bool true)
            have c0 := (blk (i := 0) (u := .int .i64 4) bb rfl).1
            have c2 := (blk (i := 2) (u := .int .i64 b) bb rfl).1
            go_upto_region 23 with (fail)
            generalize wa.setCell ⟨w7.heap.size, b.toNat, none⟩ (.bool true) = wb at *
            have k0' := (blk (i := 0) (u := .int .i64 4) d0 rfl).1
            have k1' := (blk (i := 1) (u := .int .i64 a) d0 rfl).1
            obtain ⟨ga0, ga1⟩ := fl3.at_ (i := a.toNat) (by omega)
            have H := Lib.hid (show Flags w7.heap.size (wb.setCell ⟨w7.heap.size, a.toNat, none⟩ (.bool true)) w7.heap.size q0 (lvN zx q0 ox (j + 1)) by rw [HS.out, e2']; exact fl3.set a.toNat true)
            have HB := Lib.hid (hb3.setCell (p := ⟨w7.heap.size, a.toNat, none⟩) (Nat.le_refl _) (.bool true))
            clear fl2 fl3 hb2 hb3 e1' e2' HS HU HV fe c0 c2 fa0 fa bb d0
            go_wp2_with fail
            go_roundw
            case rel => exact ⟨j + 1, by omega, by go_num, H.out, HB.out⟩
            case measure => simp [intOf]
          · have h1 : one1 5 := by unfold one1; omega
            obtain ⟨p0, p1⟩ := r1 h1
            have u1 : a < (q0 : Int) := by omega
            have e1' : D1 = D.set a.toNat true := by rw [HV.out, if_pos ⟨hf, h1⟩]
            have e2' : D2 = D1 := by rw [HU.out, if_neg (fun e => by have := e.2; unfold two at this; omega)]
            obtain ⟨fa0, fa⟩ := fl2.at_ (i := a.toNat) (by omega)
            have c0 := (blk (i := 0) (u := .int .i64 5) bb rfl).1
            have c1' := (blk (i := 1) (u := .int .i64 a) bb rfl).1
            have H := Lib.hid (show Flags w7.heap.size (wa.setCell ⟨w7.heap.size, a.toNat, none⟩ (.bool true)) w7.heap.size q0 (lvN zx q0 ox (j + 1)) by rw [HS.out, e2', e1']; exact fl2.set a.toNat true)
            have HB := Lib.hid (hb2.setCell (p := ⟨w7.heap.size, a.toNat, none⟩) (Nat.le_refl _) (.bool true))
            clear fl2 hb2 e1' e2' HS HU HV bb
            go_wp2_with fail
            go_roundw
            case rel => exact ⟨j + 1, by omega, by go_num, H.out, HB.out⟩
            case measure => simp [intOf]
        · obtain rfl : j = q0 := by omega
          have hL := Lib.hid hb
          have hz : (j : Int) - 1 - (j : Int) = -1 := by omega
          rw [hz] at hi
          subst hi
          have lw := lw7.trans (hb.mono lw7.size)
          have cS := sameInts_same t c4 c5 A4 A5 E wr ((iE7.below hb).ints hb.size) ((iF7.below hb).ints hb.size) EL.out (by omega)
          have zz := cell_on z0c hb
          have hjn : (j : Int) ≤ N := by omega
          have x0c := cell_on x0 hb
          have hle : decide ((j : Int) ≤ (N : Int)) = true := decide_eq_true hjn
          clear fl1 hb hz hL a0 a1 x0 x1 z0c iE7 iF7 k07 k17 lw7
          go_wp2_with (first | (go_at_call 48; (with_reducible refine cS.mono ?_); rintro e9 w9 ⟨rfl, hb9⟩; (have z9 := cell_on zz hb9); (have x9 := cell_on x0c hb9)))
          have L9 := Lib.hid (lw.trans (hb9.mono lw.size))
          go_wp2_with fail
          go_ret
          exact ⟨by first | rfl | simp, L9.out⟩
end Go.Proofs.Ytegdlegndgdgiaa
