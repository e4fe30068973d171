/- The law FnNoninterference: the walk. No condition. -/
import Derived.Test.YtlaidjibcpfnjaaProg
import Derived.Test.YtlaidjibcpfnjaaDrawI
import Derived.Test.YtlaidjibcpfnjaaRunP
import Derived.Test.YtlaidjibcpfnjaaFieldW
import Derived.Test.YtlaidjibcpfnjaaB1
import Derived.Test.YtlaidjibcpfnjaaF3
import Derived.Test.YtlaidjibcpfnjaaB8
namespace Go.Proofs.Ytlaidjibcpfnjaa
open Go Go.RowKit
/-- The other inputs so far: those of party p are new, the others as they were. -/
structure RowsTo (I : List (List Int)) (p k : Nat) (rs : List (List Int)) : Prop where
  len : rs.length = k
  ok : ∀ r ∈ rs, rowOk r
  same : ∀ j, j < k → j ≠ p → rs.getD j [] = I.getD j []
theorem RowsTo.start (I : List (List Int)) (p : Nat) : RowsTo I p 0 [] := ⟨rfl, fun r h => by simp at h, fun j h => by omega⟩
theorem RowsTo.step {I : List (List Int)} {p k : Nat} {rs : List (List Int)} (h : RowsTo I p k rs) {r : List Int} (hr : rowOk r) (he : k ≠ p → r = I.getD k []) : RowsTo I p (k + 1) (rs ++ [r]) := by
  refine ⟨by simp [h.len], rows_snoc h.ok hr, fun j hj hne => ?_⟩
  rcases Nat.lt_or_ge j k with h1 | h1
  · rw [rowD_left (by rw [h.len]; exact h1)]
    exact h.same j h1 hne
  · obtain rfl : j = k := by omega
    rw [rowD_last h.len]
    exact he hne
theorem RowsTo.done {I : List (List Int)} {p : Nat} {rs : List (List Int)} (h : RowsTo I p 5 rs) (hI : I.length = 5) : insOk rs ∧ sameBut p I rs := by
  refine ⟨⟨h.len, h.ok⟩, fun k hk => ?_⟩
  rcases Nat.lt_or_ge k 5 with h1 | h1
  · exact (h.same k h1 hk).symm
  · rw [List.getD_eq_getElem?_getD, List.getD_eq_getElem?_getD, List.getElem?_eq_none (by omega), List.getElem?_eq_none (by rw [h.len]; exact h1)]
theorem shr_fin : ∀ p : Fin 3, ∀ x : Fin 32, bits BinOp.and IntKind.i64 ((x.val : Int) / 2 ^ p.val) 1 = if clr p.val (x.val : Int) then 0 else 1 := by decide +kernel
theorem shr_clr {p : Nat} (hp : p < 3) {x : Int} (hx : 0 ≤ x ∧ x ≤ 31) : bits BinOp.and IntKind.i64 (x / 2 ^ p) 1 = if clr p x then 0 else 1 := by
  have h := shr_fin ⟨p, hp⟩ ⟨x.toNat, by omega⟩
  simpa only [Int.toNat_of_nonneg hx.1] using h
set_option maxHeartbeats 4000000 in
set_option maxRecDepth 100000 in
theorem FnNoninterference_walk (A : Option Addr) (n c : Nat) (w : World) (hb : Bytes w.heap.size w A n) (hm : n ≤ 9223372036854775807) :
    Calls Try.prog 3 #[.slice A n c] w fun e w' => e = .returned (.bool true) ∧ Below w.heap.size w w' := by
  by_cases hn : 1048576 < n
  · go_enter Try.func3, Try.ntmps3
    go_wp2_with fail
    refine (big_any A n c w true (by simpa using hn) hm).mono ?_
    rintro e w1 ⟨rfl, rfl⟩
    go_wp2_with fail
    go_ret
    exact ⟨rfl, Below.refl _ _⟩
  have hn' : n ≤ 1048576 := by omega
  go_enter Try.func3, Try.ntmps3
  go_wp2_with fail
  refine (big_any A n c w false (by simpa using hn') hm).mono ?_
  rintro e w1 ⟨rfl, rfl⟩
  go_wp2_with fail
  refine (DrawRun_any A n c w hb (by omega)).mono ?_
  intro e w1 h
  obtain ⟨A1, m1, c1, ss, A2, c2, I, rfl, hl, hP, i1, hI, r1, low⟩ := h
  have m30 : m1 ≤ 2000000 := by have := hP.len; omega
  have Hl := Lib.hid hl
  have HI := Lib.hid hI
  have LI := Lib.hid hI.1
  have HP := Lib.hid hP.prog
  clear hP hl hI
  go_wp2_with fail
  refine (DrawPlaces_any A n c w1 (hb.more low low.size) (by omega)).mono ?_
  rintro e w2 ⟨gp, cp, zs, rfl, hzl, hpl, hzo, hb2⟩
  have iz := (Ints.of_own hzo).bound
  have i2 := Ints.below i1 hb2
  have r2 := r1.next hb2
  replace low := low.trans (hb2.mono low.size)
  have HZ := Lib.hid hzl
  have HPl := Lib.hid hpl
  clear hb2 i1 r1 hzl hpl hzo hb hn hn' hm
  go_wp2_with fail
  refine (impl_OutputDeps A1 m1 c1 ss w2 i2 Hl.out m30).mono ?_
  rintro e w3 ⟨D, nD, cD, rfl, oD, hb3⟩
  have lD := Lib.hid oD.len1
  have iD := oD.ints
  have i3 := Ints.below i2 hb3
  have r3 := r2.next hb3
  have iz3 := (iz.below hb3).ints hb3.size
  replace low := low.trans (hb3.mono low.size)
  clear hb3 i2 r2 oD iz
  go_wp2_with fail
  refine (impl_RunProgram A1 m1 c1 ss A2 5 c2 I w3 i3 Hl.out m30 r3 LI.out (by omega)).mono ?_
  rintro e w4 ⟨Ra, nA, cA, rfl, oA, hb4⟩
  have lA := Lib.hid oA.len1
  have iA := oA.ints.bound
  have iD4 := (Ints.below iD hb4).bound
  have i4 := (Ints.below i3 hb4).bound
  have r4 := r3.next hb4
  have iz := (Ints.below iz3 hb4).bound
  replace low := low.trans (hb4.mono low.size)
  clear hb4 i3 r3 oA iD iz3
  obtain ⟨_, _, e1, hgp, c0⟩ := iz.at_ (j := 0) (by rw [HZ.out]; omega)
  injection e1 with e1; injection e1 with e2 e3; subst e2 e3
  simp only [Nat.zero_add] at c0
  have p0 := HPl.out.at_ (j := 0) (by rw [HZ.out]; omega)
  generalize zs.getD 0 0 = z0 at *
  obtain ⟨p00, p01⟩ := p0
  have hq : 0 ≤ z0 % 3 ∧ z0 % 3 < 3 := by omega
  obtain ⟨hq0, hq1⟩ := hq
  go_upto_region 8 with (fail)
  generalize z0 % 3 = party at *
  obtain ⟨pn, rfl⟩ := Int.eq_ofNat_of_zero_le hq0
  have hp3 : pn < 3 := by omega
  have hss0 := OwnSS.empty w4 w4.heap.size 28 (Nat.le_refl _)
  have hty0 : (w4.alloc (.cells #[] 28)).ownsRow w4.heap.size 28 1 (.slice (some ⟨w4.heap.size, 0, none⟩) 0 0) 0 [] := World.ownsRow_made (e := 28) (size := 1) (base := w4.heap.size) w4 #[] 0 (Nat.le_refl _) (by unfold maxLen; omega) rfl
  have HR0 := Lib.hid (RowsTo.start I pn)
  have SS0 := Lib.hid (hss0.wide (Nat.le_refl _) (show w4.heap.size + 1 ≤ (w4.alloc (.cells #[] 28)).heap.size by simp))
  have TY0 := Lib.hid hty0
  clear c0 hss0 hty0
  go_wp2_with fail
  go_loopw [11, 12] (fun v i wr => ∃ (k : Nat) (us : List Value) (rs : List (List Int)), k ≤ 5 ∧ i = .int .i64 k ∧ OwnSS w4.heap.size wr.heap.size wr v k us rs ∧ wr.ownsRow w4.heap.size 28 1 v k us ∧ Hid (RowsTo I pn k rs) ∧ Below w4.heap.size w4 wr) (fun _ i _ => 5 - (intOf i).toNat)
  case atStart => exact ⟨0, [], [], by omega, rfl, SS0.out, TY0.out, HR0, below_alloc _ _⟩
  case round =>
    obtain ⟨k, us, rs, hk, rfl, hss, hty, HR, hb⟩ := hrel
    clear SS0 TY0 HR0
    by_cases hlt : k < 5
    case neg =>
      obtain rfl : k = 5 := by omega
      obtain ⟨Ao, co, rfl⟩ := hss.form
      have hd := HR.out.done LI.out
      obtain ⟨hJ, hsame⟩ := hd
      have rJ := hss.ints
      have iA5 := (iA.below hb)
      have iD5 := (iD4.below hb)
      have i5 := (i4.below hb).ints hb.size
      have hs5 := hb.size
      have lowF := low.trans (hb.mono low.size)
      have cB := impl_RunProgram A1 m1 c1 ss Ao 5 co rs wr i5 Hl.out m30 rJ hss.len (by omega)
      clear hss hty HR iA iD4 i4 iz r4
      go_wp2_with fail
      refine cB.mono ?_
      rintro e w6 ⟨Rb, nB, cB', rfl, oB, hb6⟩
      have iA6 := (iA5.ints hs5 |> fun h => Ints.below h hb6)
      have iD6 := (iD5.ints hs5 |> fun h => Ints.below h hb6)
      have i6 := Ints.below i5 hb6
      have iB6 := oB.ints
      have lB := Lib.hid oB.len1
      have lA' := lA.out
      have lD' := lD.out
      have lB' := lB.out
      have low6 := lowF.trans (hb6.mono lowF.size)
      clear hb6 oB cB rJ iA5 iD5 i5 hb lowF
      by_cases hu : unrI ss
      case neg =>
        have hz : (120 : Int) < sizeI ss := by
          unfold sizeI
          rw [if_pos HP.out]
          have : ¬ (unrollL ss).length ≤ 120 := fun h => hu ⟨HP.out, h⟩
          omega
        have hd1 : decide (unrI ss) = false := decide_eq_false hu
        have cS := impl_UnrolledSize A1 m1 c1 ss w6 i6 Hl.out m30
        generalize sizeI ss = sz at *
        clear lA' lD' lB' iA6 iD6 iB6 hJ hsame
        go_wp2_with fail
        refine cS.mono ?_
        rintro e w7 ⟨rfl, hb7⟩
        go_wp2_with fail
        go_ret
        exact ⟨rfl, low6.trans (hb7.mono low6.size)⟩
      have hro : runOk ss I := ⟨hu, HI.out⟩
      have hro2 : runOk ss rs := ⟨hu, hJ⟩
      have hni := noninterference hp3 hro hro2 hsame
      have hdep : depsI ss = deps (unrollL ss) := if_pos hu
      have hdl := deps_outs HP.out
      have hal := runI_outs hro
      have hbl := runI_outs hro2
      have h5 := deps_five (unrollL ss)
      have hfl : ∀ al, decide (flowOkI ss al) = decide (within (deps (unrollL ss)) al) := fun al => by
        unfold flowOkI
        simp [hu]
      have hd1 : decide (unrI ss) = true := decide_eq_true hu
      have hd2 : decide (runOk ss I) = true := decide_eq_true hro
      rw [hdep] at lD' iD6
      have hf1 : decide (flowOkI ss (deps (unrollL ss))) = true := by rw [hfl]; exact decide_eq_true (within_same h5)
      have hdl120 : (deps (unrollL ss)).length ≤ 120 := by have := hu.2; have h1 := outs_le (unrollL ss); omega
      have cF := fun W => impl_FlowOk A1 m1 c1 ss D nD cD (deps (unrollL ss)) W
      obtain rfl : nD = nA := by omega
      obtain rfl : nD = nB := by omega
      generalize deps (unrollL ss) = ds at *
      generalize runI ss I = as' at *
      generalize runI ss rs = bs at *
      have LD := Lib.hid lD'
      have LA := Lib.hid lA'
      have LB := Lib.hid lB'
      have HNI := Lib.hid hni
      have H5 := Lib.hid h5
      have HF := Lib.hid hf1
      have hd120 : nD ≤ 120 := by omega
      clear lA' lD' lB' hni hdep hdl hal hbl hfl hro hro2 hJ hsame hu lA lB lD h5 hf1 hdl120
      go_wp2_with fail
      go_loopw [17] (fun v wr2 => ∃ j : Nat, j ≤ nD ∧ v = .int .i64 j ∧ Below w6.heap.size w6 wr2) (fun v _ => nD - (intOf v).toNat)
      case atStart => exact ⟨0, Nat.zero_le _, rfl, Below.refl _ _⟩
      case round =>
        obtain ⟨j, hj, rfl, hlow⟩ := hrel
        by_cases hlt : j < nD
        case neg =>
          obtain rfl : j = nD := by omega
          have cF2 := cF wr (Ints.below i6 hlow) Hl.out m30 (Ints.below iD6 hlow) LD.out (by omega)
          rw [HF.out] at cF2
          have lowE := low6.trans (hlow.mono low6.size)
          clear hlow cF iA6 iD6 iB6 i6
          go_wp2_with fail
          refine cF2.mono ?_
          rintro e w7 ⟨rfl, hb7⟩
          go_wp2_with fail
          go_ret
          exact ⟨rfl, lowE.trans (hb7.mono lowE.size)⟩
        obtain ⟨bd, od, rfl, _, q0⟩ := (iD6.bound.below hlow).at_ (j := j) (by rw [LD.out]; exact hlt)
        obtain ⟨ba, oa, rfl, _, q1⟩ := (iA6.bound.below hlow).at_ (j := j) (by rw [LA.out]; exact hlt)
        obtain ⟨bb, ob, rfl, _, q2⟩ := (iB6.bound.below hlow).at_ (j := j) (by rw [LB.out]; exact hlt)
        have hni2 := HNI.out j (by rw [LD.out]; exact hlt)
        have h5j := H5.out.at_ j
        generalize ds.getD j 0 = x at *
        generalize as'.getD j 0 = y at *
        generalize bs.getD j 0 = z at *
        have j0 : (0 : Int) ≤ j := by omega
        have j1 : (j : Int) < nD := by omega
        have HN2 := Lib.hid hni2
        clear iA6 iD6 iB6 i6 cF hni2
        have hclr := shr_clr hp3 h5j
        obtain ⟨x0, x1⟩ := h5j
        by_cases hc : clr pn x
        · have hyz := HN2.out hc
          subst hyz
          rw [if_pos hc] at hclr
          have hyy : (y != y) = false := by simp
          clear hc
          go_wp2_with fail
          go_quiet (fail)
          go_wp2_with fail
          go_roundw
          case rel => exact ⟨j + 1, by omega, by go_num, below_drewN hlow _⟩
          case measure => simp [intOf]; omega
        · rw [if_neg hc] at hclr
          clear hc
          go_wp2_with fail
          go_quiet (fail)
          go_wp2_with fail
          go_roundw
          case rel => exact ⟨j + 1, by omega, by go_num, below_drewN hlow _⟩
          case measure => simp [intOf]; omega
    have k1 : (k : Int) < 5 := by omega
    have k0 : (0 : Int) ≤ k := by omega
    obtain ⟨bI, oI, Aj, cj, rfl, _, u0, ir⟩ := (r4.below hb).at_ (j := k) (by rw [LI.out]; exact hlt)
    have hrow4 := (HI.out.row (k := k) hlt)
    have h4 := hrow4.1
    rw [h4] at u0
    have L4 := Lib.hid h4
    have iR := (ir.ints hb.size).al (.cells #[] 3)
    have g0 := Grow.empty (Below.refl wr.heap.size wr)
    have u0a := cell_on u0 (below_alloc wr (.cells #[] 3))
    clear ir h4
    go_wp2_with (first | (at_builtin; refine app_ints elemInt rfl _ _ rfl wr.heap.size _ 0 [] rfl g0.own Aj 4 cj (I.getD k []) rfl iR L4.out (by unfold maxLen; omega) (by omega) g0.size ?_))
    intro v5 w5 ho5 hg5 _
    have G5 := g0.app ho5 hg5 (ys := I.getD k []) rfl
    obtain ⟨A5, m5, c5, rfl, hm5⟩ := ownsRow_slice G5.own
    have hm5' : m5 = 4 := by omega
    subst hm5'
    have O5 := Lib.hid (OwnI.of_own G5.own)
    have low5 := G5.low
    clear ho5 hg5 g0 u0 u0a iR G5 hm5
    go_wp2_with fail
    obtain ⟨wo, rfl⟩ : ∃ wo : World, wo = wr := ⟨_, rfl⟩
    obtain ⟨b5, rfl, hb5, hb5l⟩ := own_addr O5.out.own (by omega)
    have Y0 : Hid (rowOk (I.getD k []) ∧ (k ≠ pn → I.getD k [] = I.getD k [])) := Lib.hid ⟨hrow4, fun _ => rfl⟩
    clear hrow4
    go_loopw [14] (fun v wi => ∃ (j : Nat) (ys : List Int), j ≤ 4 ∧ v = .int .i64 j ∧ OwnI wo.heap.size w5.heap.size wi (.slice (some ⟨b5, 0, none⟩) 4 c5) 4 ys ∧ Hid (rowOk ys ∧ (k ≠ pn → ys = I.getD k [])) ∧ Below wo.heap.size wo wi) (fun v _ => 4 - (intOf v).toNat)
    case atStart => exact ⟨0, _, by omega, rfl, O5.out, Y0, low5⟩
    case round =>
      obtain ⟨j, ys, hj, rfl, oY, hY, hbi⟩ := hrel
      clear Y0
      by_cases hj4 : j < 4
      case neg =>
        obtain rfl : j = 4 := by omega
        have hown1 := hss.below hbi
        have hty1 := own_below hty hbi
        have hws := hb.size
        have hsz := hbi.size
        have OK2 := Lib.hid (HR.out.step (r := ys) hY.out.1 hY.out.2)
        have hrow := oY.any
        have lowI := hb.trans (hbi.mono hb.size)
        clear hss hty hbi iz r4 oY O5 low5 hb HR hY iA iD4 i4
        go_wp2_with (first | (at_builtin; refine app_list (e' := 28) elemInts rfl _ _ rfl w4.heap.size _ k us rfl (hty1.alloc _) wr.heap.size 1 1 _ (0, 0) rfl (heap_alloc_new wr _) rfl (oneCell_slice _ rfl) (by omega) (by unfold maxLen; omega) (by omega) (by simp; omega) (wr.heap.size + 1) (by simp) ?_))
        intro g7 cap7 w7 ho7 hg7 hat7 hl7
        have o7 := hown1.snoc hrow hws (Nat.le_refl _) ho7 hg7 hat7
        have low7 := below_own (low_alloc lowI (.cells #[.slice (some ⟨b5, 0, none⟩) 4 c5] 28) |> fun h => h) (hty1.alloc _) hg7 (Nat.le_refl _) (by simp; omega)
        have O7 := Lib.hid o7
        have HO7 := Lib.hid ho7
        have LOW7 := Lib.hid low7
        clear o7 ho7 hg7 hat7 low7 hown1 hty1 hrow lowI
        go_wp2_with fail
        go_roundw
        case rel => exact ⟨k + 1, _, _, by omega, by go_num, O7.out, HO7.out, OK2, LOW7.out⟩
        case measure => simp [intOf]; omega
      have j0 : (0 : Int) ≤ j := by omega
      have j4 : (j : Int) < 4 := by omega
      by_cases hkp : k = pn
      case neg =>
        have hne : ((k : Int) == (pn : Int)) = false := beq_eq_false_iff_ne.2 (by omega)
        have hne2 : ¬ (k : Int) = (pn : Int) := by omega
        have hown1 := hss.below hbi
        have hty1 := own_below hty hbi
        have hws := hb.size
        have hsz := hbi.size
        have OK2 := Lib.hid (HR.out.step (r := ys) hY.out.1 hY.out.2)
        have hrow := oY.any
        have lowI := hb.trans (hbi.mono hb.size)
        clear hss hty hbi iz r4 oY O5 low5 hb HR hY iA iD4 i4
        go_wp2_with (first | (at_builtin; refine app_list (e' := 28) elemInts rfl _ _ rfl w4.heap.size _ k us rfl (hty1.alloc _) wr.heap.size 1 1 _ (0, 0) rfl (heap_alloc_new wr _) rfl (oneCell_slice _ rfl) (by omega) (by unfold maxLen; omega) (by omega) (by simp; omega) (wr.heap.size + 1) (by simp) ?_))
        intro g7 cap7 w7 ho7 hg7 hat7 hl7
        have o7 := hown1.snoc hrow hws (Nat.le_refl _) ho7 hg7 hat7
        have low7 := below_own (low_alloc lowI (.cells #[.slice (some ⟨b5, 0, none⟩) 4 c5] 28) |> fun h => h) (hty1.alloc _) hg7 (Nat.le_refl _) (by simp; omega)
        have O7 := Lib.hid o7
        have HO7 := Lib.hid ho7
        have LOW7 := Lib.hid low7
        clear o7 ho7 hg7 hat7 low7 hown1 hty1 hrow lowI
        go_wp2_with fail
        go_roundw
        case rel => exact ⟨k + 1, _, _, by omega, by go_num, O7.out, HO7.out, OK2, LOW7.out⟩
        case measure => simp [intOf]; omega
      subst hkp
      obtain ⟨_, _, e1, _, c1'⟩ := (iz.below (hb.trans (hbi.mono hb.size))).at_ (j := 1 + j) (by rw [HZ.out]; omega)
      injection e1 with e1; injection e1 with e2 e3; subst e2 e3
      simp only [Nat.zero_add] at c1'
      have hy := HPl.out.at_ (j := 1 + j) (by rw [HZ.out]; omega)
      generalize zs.getD (1 + j) 0 = y at *
      obtain ⟨y0, y1⟩ := hy
      have hy16 : 0 ≤ y % 16 ∧ y % 16 < 16 := by omega
      obtain ⟨y2, y3⟩ := hy16
      obtain ⟨q0, f0⟩ := oY.cellAt (j := j) hj4
      have OY := Lib.hid (oY.setAt (j := j) (y % 16))
      have HY : Hid (rowOk (ys.set j (y % 16)) ∧ (k ≠ k → ys.set j (y % 16) = I.getD k [])) := Lib.hid ⟨⟨by rw [List.length_set]; exact hY.out.1.1, hY.out.1.2.set _ ⟨y2, by omega⟩⟩, fun h => absurd rfl h⟩
      have LOWI := Lib.hid (hbi.setCell (p := ⟨b5, j, none⟩) hb5 (.int .i64 (y % 16)))
      clear oY hY hbi hss hty HR iz r4 O5 low5 hb iA iD4 i4
      go_wp2_with fail
      go_roundw
      case rel => exact ⟨j + 1, _, by omega, by go_num, OY.out, HY, LOWI.out⟩
      case measure => simp [intOf]; omega
end Go.Proofs.Ytlaidjibcpfnjaa
