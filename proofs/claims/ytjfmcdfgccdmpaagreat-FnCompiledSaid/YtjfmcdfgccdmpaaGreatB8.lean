/- Unroll of the program. No condition. And what goes with it. -/
import Derived.Test.YtjfmcdfgccdmpaaGreatProg
import Derived.Test.YtjfmcdfgccdmpaaGreatB4
import Derived.Test.YtjfmcdfgccdmpaaGreatB6
import Derived.Test.YtjfmcdfgccdmpaaGreatB7
import Derived.WalkMore
import Derived.Deep.LoopGhost
namespace Go.Proofs.YtjfmcdfgccdmpaaGreat
open Go Go.RowKit
set_option maxRecDepth 100000 in
set_option maxHeartbeats 3000000 in
theorem impl_Unroll (A : Option Addr) (n cp : Nat) (ss : List St) (w : World) (hr : Ints w A (flat ss)) (hl : ss.length = n) (hn : n ≤ 2000000) :
    Calls Tryz.prog 16 #[.slice A n cp] w (Post_S_bool (unrV ss) (decide (unrI ss)) w) := by
  have c1 := impl_ProgramOk A n cp ss w hr hl hn
  by_cases hp : progI ss
  case neg =>
    rw [decide_eq_false hp] at c1
    have hu : ¬ unrI ss := fun h => hp h.1
    unfold unrV
    rw [if_neg hu, decide_eq_false hu]
    clear hp hr hu
    go_enter Tryz.func16, Tryz.ntmps16
    go_wp2_with fail
    go_step3
    go_wp2_with fail
    refine c1.mono ?_
    rintro e w1 ⟨rfl, hb⟩
    go_wp2_with fail
    go_returns
    exact ⟨none, 0, 0, rfl, rfl, OwnSt.of_own (World.ownsRow_nil w1 _ _ 6), hb⟩
  rw [decide_eq_true hp] at c1
  have Hl := Lib.hid hl
  have n40 : n ≤ 40 := by have := hp.1; omega
  have HA := Lib.hid (At.start hp.2)
  have Hno : Hid (∀ w1 : World, ∀ z : Nat, 120 < z → z ≤ (unrollL ss).length → Below w.heap.size w w1 → Post_S_bool (unrV ss) (decide (unrI ss)) w (.returned (.tuple #[.slice none 0 0, .bool false])) w1) := Lib.hid (fun w1 z h1 h2 h3 => by
    have hu : ¬ unrI ss := fun h => by have := h.2; omega
    unfold unrV
    rw [if_neg hu, decide_eq_false hu]
    exact ⟨none, 0, 0, rfl, rfl, OwnSt.of_own (World.ownsRow_nil w1 _ _ 6), h3⟩)
  have Hyes : Hid (∀ w1 : World, ∀ (B : Option Addr) (z c : Nat), z ≤ 120 → z = (unrollL ss).length → OwnS w.heap.size w1 (.slice B z c) z (unrollL ss) → Below w.heap.size w w1 → Post_S_bool (unrV ss) (decide (unrI ss)) w (.returned (.tuple #[.slice B z c, .bool true])) w1) := Lib.hid (fun w1 B z c h1 h2 h3 h4 => by
    have hu : unrI ss := ⟨hp, by omega⟩
    unfold unrV
    rw [if_pos hu, decide_eq_true hu]
    exact ⟨B, z, c, rfl, h2.symm, OwnSt.of_own h3, h4⟩)
  clear hl hp
  go_enter Tryz.func16, Tryz.ntmps16
  go_wp2_with fail
  go_step3
  go_wp2_with fail
  refine c1.mono ?_
  rintro e w1 ⟨rfl, hb1⟩
  have hr1 := hr.bound.below hb1
  have hs1 := hb1.size
  clear c1
  have E1 : OwnS w.heap.size (w1.alloc (.cells #[] 49)) (.slice (some ⟨w1.heap.size, 0, none⟩) 0 0) 0 [] := World.ownsRow_made (e := 49) (size := 6) (base := w.heap.size) w1 #[] 0 hs1 (by unfold maxLen; omega) rfl
  have E2 : OwnS w.heap.size ((w1.alloc (.cells #[] 49)).alloc (.cells #[] 66)) (.slice (some ⟨w1.heap.size, 0, none⟩) 0 0) 0 [] := own_below E1 (below_alloc _ _)
  have E3 : OwnF w.heap.size ((w1.alloc (.cells #[] 49)).alloc (.cells #[] 66)) (.slice (some ⟨w1.heap.size + 1, 0, none⟩) 0 0) [] := by
    have h := World.ownsRow_made (e := 66) (size := 2) (base := w.heap.size) (w1.alloc (.cells #[] 49)) #[] 0 (by simp; omega) (by unfold maxLen; omega) rfl
    simpa [OwnF, opens, intVals] using h
  have E4 : apart (.slice (some ⟨w1.heap.size, 0, none⟩) 0 0) (.slice (some ⟨w1.heap.size + 1, 0, none⟩) 0 0) := fun k e e' => by
    simp [Value.ownBlock] at e e'
    omega
  have hb2 := low_alloc (low_alloc hb1 (.cells #[] 49)) (.cells #[] 66)
  clear E1 hb1 hr1
  go_wp2_with fail
  go_step3
  go_wp2_with fail
  go_loopg [4, 5, 17] n (fun gk uv ov i wr => ∃ (k : Nat) (C : List St) (K : Fr), k ≤ n ∧ gk = n - k ∧ i = .int .i64 k ∧ OwnS w.heap.size wr uv (full C K).length (full C K) ∧ OwnF w.heap.size wr ov K ∧ apart uv ov ∧ Hid (At ss k C K) ∧ Below w.heap.size w wr)
  case atStart => exact ⟨0, [], [], Nat.zero_le _, rfl, rfl, E2, E3, E4, HA, hb2⟩
  case round =>
    obtain ⟨wo, rfl⟩ : ∃ wo : World, wo = wr := ⟨_, rfl⟩
    obtain ⟨k, C, K, hk, hgk, rfl, hown, hop, hap, hA, hb⟩ := hrel
    clear HA hb2 E2 E3 E4
    have hdeep := hA.out.deep
    have hbd := hA.out.bound
    have hsz := hb.size
    obtain ⟨Au, lu, cu, rfl, hlu⟩ := ownsRow_slice hown
    obtain ⟨Ao, lo, co, rfl, hlo⟩ := ownsRow_slice hop
    generalize hll : (full C K).length = sl at *
    subst hlu hlo
    have Hll := Lib.hid hll
    by_cases hlt : k < n
    · rcases hs : ss.getD k s0 with ⟨op, d, a, b, c, m⟩
      have hlk : k < ss.length := by rw [Hl.out]; exact hlt
      obtain ⟨g, o, rfl, hbl, q0, q1, q2, q3, q4, q5⟩ := cell6 (hr.bound.below hb) hlk hs
      have hcase : op = 12 ∨ op = 13 ∨ (op ≠ 12 ∧ op ≠ 13) := by omega
      have k0 : (0 : Int) ≤ k := by omega
      have k1 : (k : Int) < n := by omega
      clear hr hll
      rcases hcase with rfl | rfl | ⟨h12, h13⟩
      · obtain ⟨hA2, hm1, hm8⟩ := hA.out.loop hlk hs rfl
        have HA2 := Lib.hid hA2
        have hb2 := low_alloc hb (.cells #[.int .i64 12, .int .i64 d, .int .i64 a, .int .i64 b, .int .i64 c, .int .i64 m] 49)
        have hop2 : OwnF w.heap.size _ _ K := own_below hop (below_alloc wo (.cells #[.int .i64 12, .int .i64 d, .int .i64 a, .int .i64 b, .int .i64 c, .int .i64 m] 49))
        have hb3 := low_alloc hb2 (.cells #[.int .i64 (sl : Int), .int .i64 m] 66)
        have hop3 := own_below hop2 (below_alloc _ (.cells #[.int .i64 (sl : Int), .int .i64 m] 66))
        have hown3 := own_below (own_below hown (below_alloc wo (.cells #[.int .i64 12, .int .i64 d, .int .i64 a, .int .i64 b, .int .i64 c, .int .i64 m] 49))) (below_alloc _ (.cells #[.int .i64 (sl : Int), .int .i64 m] 66))
        clear hA hA2 hs hlk hown
        go_wp2_with (first | (at_builtin; go_loud (refine app_list (e' := 66) elemOpen rfl _ _ rfl w.heap.size _ K.length (intVals (opens K)) rfl hop3 (wo.heap.size + 1) 1 1 _ (0, 0) rfl (new_at _ _ _ (by simp)) rfl (oneCell_i64 [_, _]) (by omega) (by unfold maxLen; omega) (by omega) (by simp; omega) (wo.heap.size + 1 + 1) (by simp) ?_)))
        intro g2 cap w4 hown4 hgrow hat hgl2
        have hb4 := below_own hb3 hop3 hgrow (Nat.le_refl _) hb3.size
        have Hop4 := Lib.hid (OwnF.push (n := m.toNat) (p := C) (by rw [Hll.out]) (by omega) hown4)
        have hap4 : apart (.slice Au sl cu) (.slice (some ⟨g2, 0, none⟩) (K.length + 1) cap) := (apart_app hap.symm (fun k e => (World.ownsRow.lt hown3 k e).2) (by simpa using hat)).symm
        have Hown5 : Hid (OwnS w.heap.size w4 (.slice Au sl cu) (full [] ((m.toNat, C) :: K)).length (full [] ((m.toNat, C) :: K))) := by
          rw [full_nil, Hll.out]
          exact Lib.hid (World.ownsRow.kept hown3 hgrow (by
            rcases hv : (Value.slice Au sl cu).ownBlock with _ | k
            · exact .inl rfl
            · exact .inr (fun e => hap k hv e.symm)))
        clear hown4 hop2 hop3 hgrow hat hgl2 hb2 hb hb3 hown3 hap hop
        go_wp2_with fail
        go_roundg (n - (k + 1))
        case rel => exact ⟨k + 1, [], (m.toNat, C) :: K, by omega, rfl, by go_num, Hown5.out, Hop4.out, hap4, HA2, hb4⟩
        case measure => omega
      · obtain ⟨t, p, K', rfl, ht1, ht8, hA2⟩ := hA.out.end_ hlk hs rfl
        have HA2 := Lib.hid hA2
        have hK2 : K'.length ≤ 1000000 := by rw [List.length_cons] at hdeep; omega
        have hK3 : K'.length ≤ 3 := by rw [List.length_cons] at hdeep; omega
        rw [List.length_cons] at hop hap ⊢
        have c3 := fun w' h => impl_closeInnermost w.heap.size t co Ao K' p w' h hK2
        have hb2 := low_alloc (low_alloc hb (.cells #[.int .i64 13, .int .i64 d, .int .i64 a, .int .i64 b, .int .i64 c, .int .i64 m] 49)) (.cells #[.int .i64 0, .int .i64 0] 66)
        have hop2 := own_below (own_below hop (below_alloc wo (.cells #[.int .i64 13, .int .i64 d, .int .i64 a, .int .i64 b, .int .i64 c, .int .i64 m] 49))) (below_alloc _ (.cells #[.int .i64 0, .int .i64 0] 66))
        have hC : C.length ≤ 20480 := by
          have := Hll.out
          simp only [full, List.length_append] at this
          omega
        have hst : (full p K').length + C.length = sl := by
          have := Hll.out
          simp only [full, List.length_append] at this
          exact this
        have hunder := HA2.out.under
        rw [full_app, List.length_append, rep_length] at hunder
        have Hunder := Lib.hid hunder
        clear hunder hA hA2 hs hlk
        go_wp2_with fail
        refine (c3 _ hop2).mono ?_
        rintro e w2 ⟨rfl, hb3⟩
        generalize hstt : (full p K').length = st at *
        have Hstt := Lib.hid hstt
        clear hstt
        have hbox := heap_below (new_at (wo.alloc (.cells #[.int .i64 13, .int .i64 d, .int .i64 a, .int .i64 b, .int .i64 c, .int .i64 m] 49)) (.cells #[.int .i64 0, .int .i64 0] 66) (wo.heap.size + 1) (by simp)) hb3
        obtain ⟨z0, f0⟩ := blk (i := 0) hbox rfl
        obtain ⟨z1, f1⟩ := blk (i := 1) hbox rfl
        have hb4 := hb2.trans (hb3.mono hb2.size)
        have hbw : Below wo.heap.size wo w2 := (low_alloc (below_alloc wo (.cells #[.int .i64 13, .int .i64 d, .int .i64 a, .int .i64 b, .int .i64 c, .int .i64 m] 49)) (.cells #[.int .i64 0, .int .i64 0] 66)).trans (hb3.mono (by simp; omega))
        have hbx := (hbw.setCell (p := ⟨wo.heap.size + 1, 0, none⟩) (by simp) (.int .i64 (st : Int))).setCell (p := ⟨wo.heap.size + 1, 1, none⟩) (by simp) (.int .i64 (t : Int))
        have hop5 := OwnF.pop (own_below hop hbx)
        have hown5 : OwnS w.heap.size _ (.slice Au sl cu) sl (full p K' ++ C) := own_below hown hbx
        have hb5 := (hb4.setCell (p := ⟨wo.heap.size + 1, 0, none⟩) (by simp; omega) (.int .i64 (st : Int))).setCell (p := ⟨wo.heap.size + 1, 1, none⟩) (by simp; omega) (.int .i64 (t : Int))
        have hap5 : apart (.slice Au sl cu) (.slice Ao K'.length co) := fun k e e' => hap k e (by rw [← e']; cases Ao <;> rfl)
        have hcap : sl ≤ cu := by
          rcases hown5.2 with ⟨h1, h2⟩ | ⟨g', cap', cur, h1, h2, h3, h4, _⟩
          · omega
          · injection h1 with _ _ h13; omega
        have hsl : sl ≤ 20480 := by omega
        have Hb5 := Lib.hid hb5
        have Hop5 := Lib.hid hop5
        have Hown5 := Lib.hid hown5
        have Hap5 := Lib.hid hap5
        have hbox3 := heap_set (i := 1) (heap_set (i := 0) hbox (.int .i64 (st : Int))) (.int .i64 (t : Int))
        clear hb3 hb2 c3 hop2 hop hap hown hb hbox hbw hbx hb4 hb5 hop5 hown5 hap5 q0 q1 q2 q3 q4 q5
        go_upto_region 15 with fail
        clear z0 z1 f0 f1
        generalize (w2.setCell ⟨wo.heap.size + 1, 0, none⟩ (.int .i64 (st : Int))).setCell ⟨wo.heap.size + 1, 1, none⟩ (.int .i64 (t : Int)) = W3 at *
        have z0 := (blk (i := 0) hbox3 rfl).1
        have z1 := (blk (i := 1) hbox3 rfl).1
        have Hwo : Hid (wo.heap.size + 1 < W3.heap.size) := Lib.hid (heap_lt hbox3)
        clear hbox3
        have Hcases : (cu - st = 0 ∧ ∃ Ab cb, Hid (Value.slice Ab (sl - st) cb = .slice Au (sl - st) 0) ∧ Hid (Src 6 W3 (.slice Au sl cu) sl Ab (flat C))) ∨ (¬ cu - st = 0 ∧ ∃ g' Ab cb, Au = some ⟨g', 0, none⟩ ∧ Hid (Value.slice Ab (sl - st) cb = .slice (some ⟨g', st * 6, none⟩) (sl - st) (cu - st)) ∧ Hid (Src 6 W3 (.slice Au sl cu) sl Ab (flat C))) := by
          by_cases hz : cu - st = 0
          · refine .inl ⟨hz, Au, 0, Lib.hid rfl, Lib.hid (Src.tail Hown5.out Hstt.out Au (fun hne => absurd (List.eq_nil_of_length_eq_zero (by omega)) hne))⟩
          · refine .inr ⟨hz, ?_⟩
            rcases Hown5.out.2 with ⟨h1, h2⟩ | ⟨g', cap', cur, h1, h2⟩
            · injection h1 with _ _ h13
              omega
            · injection h1 with h11 _ _
              exact ⟨g', some ⟨g', st * 6, none⟩, cu - st, h11, Lib.hid rfl, Lib.hid (Src.tail Hown5.out Hstt.out _ (fun _ g2 hg2 => by rw [h11] at hg2; injection hg2 with hg2; injection hg2 with hg2; rw [hg2]))⟩
        have Hfl : Hid ((flat C).length = (sl - st) * 6) := by
          rw [flat_length]
          exact Lib.hid (by omega)
        have s0 : (0 : Int) ≤ st := by omega
        have s1 : (st : Int) ≤ sl := by omega
        have s2 : (st : Int) ≤ cu := by omega
        have s3 : (sl : Int) ≤ cu := by omega
        have HL0 : Hid ((full p K' ++ rep (0 + 1) C).length = sl) := by
          rw [rep, rep, List.nil_append, List.length_append, Hstt.out]
          exact Lib.hid hst
        have HO0 : Hid (OwnS w.heap.size W3 (.slice Au sl cu) sl (full p K' ++ rep (0 + 1) C)) := by
          rw [rep, rep, List.nil_append]
          exact Hown5
        have hC2 : C.length = sl - st := by omega
        have hst2 : st ≤ 20480 := by omega
        have HC2 := Lib.hid hC2
        clear hC2 hst Hown5 hC
        rcases Hcases with ⟨hz, Ab, cb, HAb, HSrc⟩ | ⟨hz, g', Ab, cb, rfl, HAb, HSrc⟩
        all_goals
          go_wp2_with fail
          go_loopg [4, 51] (t - 1) (fun gi uv iv wr => ∃ (i sx : Nat), i + 1 ≤ t ∧ gi = t - 1 - i ∧ iv = .int .i64 i ∧ Hid ((full p K' ++ rep (i + 1) C).length = sx) ∧ Hid (OwnS w.heap.size wr uv sx (full p K' ++ rep (i + 1) C)) ∧ Hid (Src 6 wr uv sx Ab (flat C)) ∧ Hid (OwnF w.heap.size wr (.slice Ao K'.length co) K') ∧ Hid (apart uv (.slice Ao K'.length co)) ∧ Hid (Below w.heap.size w wr))
          case atStart => exact ⟨0, sl, by omega, by omega, rfl, HL0, HO0, HSrc, Hop5, Hap5, Hb5⟩
          case round =>
            obtain ⟨i, sx, hi, hgi, rfl, HLx, HOx, HSx, Hopx, Hapx, Hbx⟩ := hrel
            clear HL0 HO0 HSrc Hop5 Hap5 Hb5
            obtain ⟨Ax, lx, cx, rfl, hlx⟩ := ownsRow_slice HOx.out
            subst hlx
            have i0 : (0 : Int) ≤ i := by omega
            have hsx : sx ≤ 184320 := by
              have h1 := HLx.out
              rw [List.length_append, rep_length, Hstt.out, HC2.out] at h1
              have h2 : (i + 1) * (sl - st) ≤ 8 * 20480 := Nat.mul_le_mul (by omega) (by omega)
              omega
            by_cases hit : i + 1 < t
            · have i1 : (i : Int) < t - 1 := by omega
              go_wp2_with (at_builtin; go_loud (refine app_src elemStmt rfl _ _ rfl w.heap.size _ sx _ rfl HOx.out Ab (sl - st) cb (flat C) (by rw [HAb.out]; rfl) HSx.out Hfl.out (by unfold maxLen; omega) (by omega) Hbx.out.size ?_))
              intro v7 w7 hown7 hgrow hat hsrc7
              have Hb7 := Lib.hid (below_own Hbx.out HOx.out hgrow (Nat.le_refl _) Hbx.out.size)
              have Hap7 := Lib.hid (apart_app' Hapx.out (fun k e => (World.ownsRow.lt Hopx.out k e).2) hat)
              have Hop7 : Hid (OwnF w.heap.size w7 (.slice Ao K'.length co) K') := Lib.hid (World.ownsRow.kept Hopx.out hgrow (by
                rcases hv : (Value.slice Ao K'.length co).ownBlock with _ | k
                · exact .inl rfl
                · exact .inr (fun e => Hapx.out k e.symm hv)))
              have HL7 : Hid ((full p K' ++ rep (i + 1 + 1) C).length = sx + (sl - st)) := by
                rw [rep, ← List.append_assoc, List.length_append, HLx.out, HC2.out]
                exact Lib.hid rfl
              have HO7 : Hid (OwnS w.heap.size w7 v7 (sx + (sl - st)) (full p K' ++ rep (i + 1 + 1) C)) := by
                have h1 := OwnS.app hown7
                rw [rep, ← List.append_assoc]
                exact Lib.hid h1
              have HS7 := Lib.hid hsrc7
              have Hun : Hid (sx + (sl - st) ≤ (unrollL ss).length) := by
                have h1 := HL7.out
                have h2 := Hunder.out
                rw [List.length_append, rep_length, Hstt.out] at h1
                have h3 : (i + 1 + 1) * C.length ≤ t * C.length := Nat.mul_le_mul_right _ (by omega)
                exact Lib.hid (by omega)
              clear hown7 hgrow hat hsrc7 HOx HSx Hopx Hapx Hbx HLx
              obtain ⟨A7, l7, c7, rfl, hl7⟩ := ownsRow_slice HO7.out
              have sxi : (sx : Int) ≤ 184320 := by omega
              generalize hq7 : sx + (sl - st) = q7 at *
              subst hl7
              have hq8 : q7 ≤ 204800 := by omega
              clear hq7
              by_cases h120 : 120 < q7
              · have hres := Lib.hid (Hno.out w7 q7 h120 Hun.out Hb7.out)
                have h120' : (120 : Int) < q7 := by omega
                go_wp2_with fail
                (try rw [Exit.noGoto_ret])
                go_returns
                exact hres.out
              · have h120' : ¬ (120 : Int) < q7 := by omega
                go_wp2_with fail
                go_roundg (t - 1 - (i + 1))
                case rel => exact ⟨i + 1, q7, by omega, by omega, by go_num, HL7, HO7, HS7, Hop7, Hap7, Hb7⟩
                case measure => omega
            · have i1 : ¬ (i : Int) < t - 1 := by omega
              obtain rfl : t = i + 1 := by omega
              have HO9 : Hid (OwnS w.heap.size wr (.slice Ax sx cx) (full (p ++ rep (i + 1) C) K').length (full (p ++ rep (i + 1) C) K')) := by
                rw [full_app, HLx.out]
                exact HOx
              clear HOx HSx HLx
              go_wp2_with fail
              go_roundg (n - (k + 1))
              case rel => exact ⟨k + 1, _, K', by omega, rfl, by go_num, HO9.out, Hopx.out, Hapx.out, HA2, Hbx.out⟩
              case measure => omega
      · have hA2 := hA.out.plain hlk hs h12 h13
        have HA2 := Lib.hid hA2
        have hb2 := low_alloc hb (.cells #[.int .i64 op, .int .i64 d, .int .i64 a, .int .i64 b, .int .i64 c, .int .i64 m] 49)
        have hb3 := low_alloc hb2 (.cells #[.int .i64 op, .int .i64 d, .int .i64 a, .int .i64 b, .int .i64 c, .int .i64 m] 49)
        have hop3 : OwnF w.heap.size _ _ K := own_below (own_below hop (below_alloc wo (.cells #[.int .i64 op, .int .i64 d, .int .i64 a, .int .i64 b, .int .i64 c, .int .i64 m] 49))) (below_alloc _ (.cells #[.int .i64 op, .int .i64 d, .int .i64 a, .int .i64 b, .int .i64 c, .int .i64 m] 49))
        have hown3 := own_below (own_below hown (below_alloc wo (.cells #[.int .i64 op, .int .i64 d, .int .i64 a, .int .i64 b, .int .i64 c, .int .i64 m] 49))) (below_alloc _ (.cells #[.int .i64 op, .int .i64 d, .int .i64 a, .int .i64 b, .int .i64 c, .int .i64 m] 49))
        clear hA hA2 hs hlk hown hop
        go_wp2_with (first | (at_builtin; go_loud (refine app_list (e' := 49) elemStmt rfl _ _ rfl w.heap.size _ sl (intVals (flat (full C K))) rfl hown3 (wo.heap.size + 1) 1 1 _ (0, 0) rfl (new_at _ _ _ (by simp)) rfl (oneCell_i64 [_, _, _, _, _, _]) (by omega) (by unfold maxLen; omega) (by omega) (by simp; omega) (wo.heap.size + 1 + 1) (by simp) ?_)))
        intro g2 cap w4 hown4 hgrow hat hgl2
        have hb4 := below_own hb3 hown3 hgrow (Nat.le_refl _) hb3.size
        have hap4 : apart (.slice (some ⟨g2, 0, none⟩) (sl + 1) cap) (.slice Ao K.length co) := apart_app hap (fun k e => (World.ownsRow.lt hop3 k e).2) (by simpa using hat)
        have hop4 : OwnF w.heap.size w4 (.slice Ao K.length co) K := World.ownsRow.kept hop3 hgrow (by
            rcases hv : (Value.slice Ao K.length co).ownBlock with _ | k
            · exact .inl rfl
            · exact .inr (fun e => hap k e.symm hv))
        have Hown5 : Hid (OwnS w.heap.size w4 (.slice (some ⟨g2, 0, none⟩) (sl + 1) cap) (full (C ++ [(⟨op, d, a, b, c, m⟩ : St)]) K).length (full (C ++ [(⟨op, d, a, b, c, m⟩ : St)]) K)) := by
          rw [full_app, List.length_append, Hll.out]
          exact Lib.hid (OwnS.one hown4)
        have Hop4 := Lib.hid hop4
        clear hown4 hop3 hgrow hat hgl2 hb2 hb hb3 hown3 hap hop4
        go_wp2_with fail
        go_roundg (n - (k + 1))
        case rel => exact ⟨k + 1, _, K, by omega, rfl, by go_num, Hown5.out, Hop4.out, hap4, HA2, hb4⟩
        case measure => omega
    · obtain rfl : k = n := by omega
      have hA2 := hA.out
      rw [← Hl.out] at hA2
      obtain ⟨rfl, he⟩ := hA2.done
      have hzz : sl = (unrollL ss).length := by rw [he, ← Hll.out]; rfl
      have hown2 : OwnS w.heap.size wo (.slice Au sl cu) sl (unrollL ss) := by rw [he]; exact hown
      have Hzz := Lib.hid hzz
      clear hA hA2 he hown hr hll hzz
      by_cases h120 : 120 < sl
      · have hres := Lib.hid (Hno.out wo sl h120 (Nat.le_of_eq Hzz.out) hb)
        have h120' : (120 : Int) < sl := by omega
        clear hown2
        go_wp2_with fail
        (try rw [Exit.noGoto_ret])
        go_returns
        exact hres.out
      · have hres := Lib.hid (Hyes.out wo Au sl cu (by omega) Hzz.out hown2 hb)
        have h120' : ¬ (120 : Int) < sl := by omega
        clear hown2
        go_wp2_with fail
        (try rw [Exit.noGoto_ret])
        go_returns
        exact hres.out
end Go.Proofs.YtjfmcdfgccdmpaaGreat

namespace Go.Proofs.YtjfmcdfgccdmpaaGreat
open Go Go.RowKit
set_option maxRecDepth 100000 in
set_option maxHeartbeats 1000000 in
theorem impl_UnrolledSize (A : Option Addr) (n cp : Nat) (ss : List St) (w : World) (hr : Ints w A (flat ss)) (hl : ss.length = n) (hn : n ≤ 2000000) :
    Calls Tryz.prog 8 #[.slice A n cp] w fun e w' => e = .returned (.int .i64 (sizeI ss)) ∧ Below w.heap.size w w' := by
  have c1 := impl_ProgramOk A n cp ss w hr hl hn
  unfold sizeI
  by_cases hp : progI ss
  case neg =>
    rw [decide_eq_false hp] at c1
    rw [if_neg hp]
    clear hp hr
    go_enter Tryz.func8, Tryz.ntmps8
    go_wp2_with fail
    refine c1.mono ?_
    rintro e w1 ⟨rfl, hb⟩
    go_wp2_with fail
    go_ret
    exact ⟨rfl, hb⟩
  rw [decide_eq_true hp] at c1
  rw [if_pos hp]
  have Hl := Lib.hid hl
  have n40 : n ≤ 40 := by have := hp.1; omega
  have HA := Lib.hid (At.start hp.2)
  clear hl hp
  go_enter Tryz.func8, Tryz.ntmps8
  go_wp2_with fail
  refine c1.mono ?_
  rintro e w1 ⟨rfl, hb1⟩
  have hr1 := hr.bound.below hb1
  have hs1 := hb1.size
  clear c1
  go_wp2_with fail
  go_loopw [3, 4, 14] (fun sv ov i wr => ∃ (k : Nat) (C : List St) (K : Fr), k ≤ n ∧ i = .int .i64 k ∧ sv = .int .i64 ((full C K).length : Int) ∧ OwnF w.heap.size wr ov K ∧ Hid (At ss k C K) ∧ Below w.heap.size w wr) (fun _ _ i _ => n - (intOf i).toNat)
  case atStart => exact ⟨0, [], [], Nat.zero_le _, rfl, rfl, World.ownsRow_made (e := 66) (size := 2) (base := w.heap.size) w1 #[] 0 hs1 (by unfold maxLen; omega) rfl, HA, hb1.alloc hs1 _⟩
  case round =>
    obtain ⟨k, C, K, hk, rfl, rfl, hown, hA, hb⟩ := hrel
    clear HA hb1 hr1
    have hdeep := hA.out.deep
    have hbd := hA.out.bound
    by_cases hlt : k < n
    · rcases hs : ss.getD k s0 with ⟨op, d, a, b, c, m⟩
      have hlk : k < ss.length := by rw [Hl.out]; exact hlt
      obtain ⟨g, o, rfl, hbl, q0, q1, q2, q3, q4, q5⟩ := cell6 (hr.bound.below hb) hlk hs
      have hcase : op = 12 ∨ op = 13 ∨ (op ≠ 12 ∧ op ≠ 13) := by omega
      have k0 : (0 : Int) ≤ k := by omega
      have k1 : (k : Int) < n := by omega
      clear hr
      rcases hcase with rfl | rfl | ⟨h12, h13⟩
      · obtain ⟨hA2, hm1, hm8⟩ := hA.out.loop hlk hs rfl
        have hb2 := low_alloc hb (.cells #[.int .i64 12, .int .i64 d, .int .i64 a, .int .i64 b, .int .i64 c, .int .i64 m] 49)
        have hown2 : OwnF w.heap.size _ _ K := own_below hown (below_alloc wr (.cells #[.int .i64 12, .int .i64 d, .int .i64 a, .int .i64 b, .int .i64 c, .int .i64 m] 49))
        clear hown
        have HA2 := Lib.hid hA2
        obtain ⟨A1, m1, c1, rfl, hm⟩ := ownsRow_slice hown2
        subst hm
        have hs2 := hb.size
        clear hA hA2 hs hlk
        go_wp2_with (first | (at_builtin; go_loud (refine app_list (e' := 66) elemOpen rfl _ _ rfl w.heap.size _ K.length (intVals (opens K)) rfl (own_below hown2 (below_alloc _ _)) (wr.heap.size + 1) 1 1 _ (0, 0) rfl (new_at _ _ _ (by simp)) rfl (oneCell_i64 [_, _]) (by omega) (by unfold maxLen; omega) (by omega) (by simp; omega) (wr.heap.size + 1 + 1) (by simp) ?_)))
        intro g2 cap w4 hown4 hgrow hat hgl2
        have hb4 := below_own (low_alloc hb2 _) (own_below hown2 (below_alloc _ _)) hgrow (Nat.le_refl _) (low_alloc hb2 _).size
        have Hown4 := Lib.hid (OwnF.push (n := m.toNat) (p := C) rfl (by omega) hown4)
        clear hown4 hown2 hgrow hat hgl2 hb2 hb
        go_wp2_with fail
        go_roundw
        case rel => exact ⟨k + 1, [], (m.toNat, C) :: K, by omega, by go_num, by rw [full_nil], Hown4.out, HA2, hb4⟩
        case measure => simp [intOf]; omega
      · obtain ⟨t, p, K', rfl, ht1, ht8, hA2⟩ := hA.out.end_ hlk hs rfl
        have hb2 := low_alloc hb (.cells #[.int .i64 13, .int .i64 d, .int .i64 a, .int .i64 b, .int .i64 c, .int .i64 m] 49)
        have hown2 : OwnF w.heap.size _ _ ((t, p) :: K') := own_below hown (below_alloc wr (.cells #[.int .i64 13, .int .i64 d, .int .i64 a, .int .i64 b, .int .i64 c, .int .i64 m] 49))
        have HA2 := Lib.hid hA2
        obtain ⟨A1, m1, c1, rfl, hm⟩ := ownsRow_slice hown2
        rw [List.length_cons] at hm
        subst hm
        have hs2 := hb.size
        have hK2 : K'.length ≤ 1000000 := by rw [List.length_cons] at hdeep; omega
        have c3 := fun w' h => impl_closeInnermost w.heap.size t c1 A1 K' p w' h hK2
        have hnew : ((full (p ++ rep t C) K').length : Int) = ((full p K').length : Int) + (t : Int) * (((full C ((t, p) :: K')).length : Int) - ((full p K').length : Int)) := by
          rw [full_app, List.length_append, rep_length]
          simp only [full, List.length_append]
          have e : ((((full p K').length + C.length : Nat) : Int) - ((full p K').length : Int)) = (C.length : Int) := by omega
          rw [e]
          push_cast
          rfl
        have hxS : ((full p K').length : Int) ≤ ((full C ((t, p) :: K')).length : Int) := by simp only [full, List.length_append]; omega
        have hS : ((full C ((t, p) :: K')).length : Int) ≤ 20480 := by omega
        have hx0 : (0 : Int) ≤ ((full p K').length : Int) := by omega
        have Hnew := Lib.hid hnew
        generalize ((full C ((t, p) :: K')).length : Int) = S at *
        generalize ((full p K').length : Int) = x at *
        have hy0 : 0 ≤ (t : Int) * (S - x) := Int.mul_nonneg (by omega) (by omega)
        have hy1 : (t : Int) * (S - x) ≤ 163840 := by
          have : (t : Int) * (S - x) ≤ 8 * 20480 := Int.mul_le_mul (by omega) (by omega) (by omega) (by omega)
          omega
        have Hown2 := Lib.hid hown2
        clear hA hA2 hs hlk hnew hown2
        go_wp2_with fail
        refine (c3 _ (own_below Hown2.out (below_alloc _ _))).mono ?_
        rintro e w2 ⟨rfl, hb3⟩
        have hb4 := (low_alloc hb2 (.cells #[.int .i64 0, .int .i64 0] 66)).trans (hb3.mono (low_alloc hb2 _).size)
        have hbox := heap_below (new_at (wr.alloc (.cells #[.int .i64 13, .int .i64 d, .int .i64 a, .int .i64 b, .int .i64 c, .int .i64 m] 49)) (.cells #[.int .i64 0, .int .i64 0] 66) (wr.heap.size + 1) (by simp)) hb3
        obtain ⟨z0, f0⟩ := blk (i := 0) hbox rfl
        obtain ⟨z1, f1⟩ := blk (i := 1) hbox rfl
        have hbw : Below wr.heap.size wr w2 := (low_alloc (below_alloc wr (.cells #[.int .i64 13, .int .i64 d, .int .i64 a, .int .i64 b, .int .i64 c, .int .i64 m] 49)) (.cells #[.int .i64 0, .int .i64 0] 66)).trans (hb3.mono (by simp; omega))
        have Hpop := Lib.hid (OwnF.pop (own_below hown ((hbw.setCell (p := ⟨wr.heap.size + 1, 0, none⟩) (by simp) (.int .i64 x)).setCell (p := ⟨wr.heap.size + 1, 1, none⟩) (by simp) (.int .i64 (t : Int)))))
        have hb5 := (hb4.setCell (p := ⟨wr.heap.size + 1, 0, none⟩) (by simp; omega) (.int .i64 x)).setCell (p := ⟨wr.heap.size + 1, 1, none⟩) (by simp; omega) (.int .i64 (t : Int))
        clear hb3 hb2 hbox Hown2 c3 q0 q1 q2 q3 q4 q5 hbw hb4 hown
        go_wp2_with fail
        go_roundw
        case rel => exact ⟨k + 1, _, K', by omega, by go_num, by rw [← Hnew.out], Hpop.out, HA2, hb5⟩
        case measure => simp [intOf]; omega
      · have hA2 := hA.out.plain hlk hs h12 h13
        have HA2 := Lib.hid hA2
        have hb2 := low_alloc hb (.cells #[.int .i64 op, .int .i64 d, .int .i64 a, .int .i64 b, .int .i64 c, .int .i64 m] 49)
        have Hown := Lib.hid (show OwnF w.heap.size _ _ K from own_below hown (below_alloc wr (.cells #[.int .i64 op, .int .i64 d, .int .i64 a, .int .i64 b, .int .i64 c, .int .i64 m] 49)))
        have Hsz : Hid (((full (C ++ [⟨op, d, a, b, c, m⟩]) K).length : Int) = ((full C K).length : Int) + 1) := by
          rw [full_app, List.length_append]
          exact Lib.hid (by simp)
        clear hA hA2 hs hlk hown hb
        go_wp2_with fail
        go_roundw
        case rel => exact ⟨k + 1, _, K, by omega, by go_num, by rw [← Hsz.out], Hown.out, HA2, hb2⟩
        case measure => simp [intOf]; omega
    · obtain rfl : k = n := by omega
      have hA2 := hA.out
      rw [← Hl.out] at hA2
      obtain ⟨rfl, he⟩ := hA2.done
      have He := Lib.hid he
      clear hA hA2 he hown hr
      go_wp2_with fail
      go_ret
      exact ⟨by rw [He.out]; rfl, hb⟩
end Go.Proofs.YtjfmcdfgccdmpaaGreat

namespace Go.Proofs.YtjfmcdfgccdmpaaGreat
open Go Go.RowKit
theorem outs_end (l : List St) : outs (l.drop l.length) = 0 := by rw [List.drop_length]; rfl
set_option maxRecDepth 100000 in
set_option maxHeartbeats 1000000 in
theorem impl_OutputCount (A : Option Addr) (n cp : Nat) (ss : List St) (w : World) (hr : Ints w A (flat ss)) (hl : ss.length = n) (hn : n ≤ 2000000) :
    Calls Tryz.prog 12 #[.slice A n cp] w fun e w' => e = .returned (.int .i64 (outsI ss)) ∧ Below w.heap.size w w' := by
  have c1 := impl_Unroll A n cp ss w hr hl hn
  unfold Post_S_bool at c1
  unfold outsI
  unfold unrV at c1
  by_cases hu : unrI ss
  case neg =>
    rw [if_neg hu, decide_eq_false hu] at c1
    rw [if_neg hu]
    clear hu hr
    go_enter Tryz.func12, Tryz.ntmps12
    go_wp2_with fail
    refine c1.mono ?_
    rintro e w1 ⟨B, m, c, rfl, -, -, hb⟩
    go_wp2_with fail
    go_ret
    exact ⟨rfl, hb⟩
  rw [if_pos hu, decide_eq_true hu] at c1
  rw [if_pos hu]
  have hz := hu.2
  generalize unrollL ss = zs at *
  clear hu
  go_enter Tryz.func12, Tryz.ntmps12
  go_wp2_with fail
  refine c1.mono ?_
  rintro e w1 ⟨B, m, c, rfl, hm, hown, hb1⟩
  have hi := hown.ints
  have Hm := Lib.hid hm
  have hm120 : m ≤ 120 := by omega
  have Hstart : Hid (outs zs = 0 + outs (zs.drop 0)) := by rw [List.drop_zero, Nat.zero_add]; exact Lib.hid rfl
  clear c1 hown hm hz
  go_wp2_with fail
  go_loopw [5, 17] (fun cv i wr => ∃ (k q : Nat), k ≤ m ∧ i = .int .i64 k ∧ cv = .int .i64 (q : Int) ∧ q ≤ k ∧ Hid (outs zs = q + outs (zs.drop k)) ∧ Below w1.heap.size w1 wr) (fun _ i _ => m - (intOf i).toNat)
  case atStart => exact ⟨0, 0, Nat.zero_le _, rfl, rfl, Nat.le_refl _, Hstart, Below.refl _ _⟩
  case round =>
    obtain ⟨k, q, hk, rfl, rfl, hq, hsum, hb⟩ := hrel
    clear Hstart
    by_cases hlt : k < m
    · rcases hs : zs.getD k s0 with ⟨op, d, a, b, c2, mm⟩
      have hlk : k < zs.length := by rw [Hm.out]; exact hlt
      obtain ⟨g, o, rfl, hbl, q0, q1, q2, q3, q4, q5⟩ := cell6 (hi.bound.below hb) hlk hs
      have hstep := outs_step hlk hs
      have k0 : (0 : Int) ≤ k := by omega
      have k1 : (k : Int) < m := by omega
      clear hs hi hlk
      by_cases h11 : op = 11
      · subst h11
        rw [if_pos rfl] at hstep
        have Hnx : Hid (outs zs = (q + 1) + outs (zs.drop (k + 1))) := Lib.hid (by rw [hsum.out, hstep]; omega)
        have hb2 := low_alloc hb (.cells #[.int .i64 11, .int .i64 d, .int .i64 a, .int .i64 b, .int .i64 c2, .int .i64 mm] 49)
        clear hstep hsum
        go_wp2_with fail
        go_roundw
        case rel => exact ⟨k + 1, q + 1, by omega, by go_num, by go_num, by omega, Hnx, hb2⟩
        case measure => simp [intOf]; omega
      · rw [if_neg h11, Nat.zero_add] at hstep
        have Hnx : Hid (outs zs = q + outs (zs.drop (k + 1))) := Lib.hid (by rw [hsum.out, hstep])
        have hb2 := low_alloc hb (.cells #[.int .i64 op, .int .i64 d, .int .i64 a, .int .i64 b, .int .i64 c2, .int .i64 mm] 49)
        clear hstep hsum
        go_wp2_with fail
        go_roundw
        case rel => exact ⟨k + 1, q, by omega, by go_num, rfl, by omega, Hnx, hb2⟩
        case measure => simp [intOf]; omega
    · obtain rfl : k = m := by omega
      have hend := outs_end zs
      rw [Hm.out] at hend
      have hh := hsum.out
      rw [hend, Nat.add_zero] at hh
      have Hr := Lib.hid (congrArg (fun x : Nat => (x : Int)) hh)
      clear hend hsum hh hi
      go_wp2_with fail
      go_ret
      exact ⟨ret_int Hr.out.symm, hb1.trans (hb.mono hb1.size)⟩
/- The contracts in the exact laws' form. -/
end Go.Proofs.YtjfmcdfgccdmpaaGreat
