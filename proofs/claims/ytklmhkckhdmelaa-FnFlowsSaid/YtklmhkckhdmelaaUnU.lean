/- Unroll of the program. No condition. -/
import Derived.Test.YtklmhkckhdmelaaProg
import Derived.Test.YtklmhkckhdmelaaPg8
import Derived.Test.YtklmhkckhdmelaaUnO
import Derived.Test.YtklmhkckhdmelaaUnA
import Derived.Test.YtklmhkckhdmelaaUnSu
import Derived.WalkMore
import Derived.Deep.LoopGhost
namespace Go.Proofs.Ytklmhkckhdmelaa
open Go Go.RowKit
set_option maxRecDepth 100000 in
set_option maxHeartbeats 3000000 in
theorem impl_Unroll (A : Option Addr) (n cp : Nat) (ss : List St) (w : World) (hr : Ints w A (flat ss)) (hl : ss.length = n) (hn : n ≤ 2000000) :
    Calls Try.prog 36 #[.slice A n cp] w (Post_S_bool (unrV ss) (decide (unrI ss)) w) := by
  have c1 := impl_ProgramOk A n cp ss w hr hl hn
  by_cases hp : progI ss
  case neg =>
    rw [decide_eq_false hp] at c1
    have hu : ¬ unrI ss := fun h => hp h.1
    unfold unrV
    rw [if_neg hu, decide_eq_false hu]
    clear hp hr hu
    go_enter Try.func36, Try.ntmps36
    go_wp2_with fail
    go_step3
    go_wp2_with fail
    refine c1.mono ?_
    rintro e w1 ⟨rfl, hb⟩
    go_wp2_with fail
    go_returns
    exact ⟨none, 0, 0, rfl, rfl, OwnSt.of_own (World.ownsRow_nil w1 _ _ 6), hb⟩
  rw [decide_eq_true hp] at c1
  have Hl := Lib.hid hl
  have n40 : n ≤ 40 := by have := hp.1; omega
  have HA := Lib.hid (At.start hp.2)
  have Hno : Hid (∀ w1 : World, ∀ z : Nat, 120 < z → z ≤ (unrollL ss).length → Below w.heap.size w w1 → Post_S_bool (unrV ss) (decide (unrI ss)) w (.returned (.tuple #[.slice none 0 0, .bool false])) w1) := Lib.hid (fun w1 z h1 h2 h3 => by
    have hu : ¬ unrI ss := fun h => by have := h.2; omega
    unfold unrV
    rw [if_neg hu, decide_eq_false hu]
    exact ⟨none, 0, 0, rfl, rfl, OwnSt.of_own (World.ownsRow_nil w1 _ _ 6), h3⟩)
  have Hyes : Hid (∀ w1 : World, ∀ (B : Option Addr) (z c : Nat), z ≤ 120 → z = (unrollL ss).length → OwnS w.heap.size w1 (.slice B z c) z (unrollL ss) → Below w.heap.size w w1 → Post_S_bool (unrV ss) (decide (unrI ss)) w (.returned (.tuple #[.slice B z c, .bool true])) w1) := Lib.hid (fun w1 B z c h1 h2 h3 h4 => by
    have hu : unrI ss := ⟨hp, by omega⟩
    unfold unrV
    rw [if_pos hu, decide_eq_true hu]
    exact ⟨B, z, c, rfl, h2.symm, OwnSt.of_own h3, h4⟩)
  clear hl hp
  go_enter Try.func36, Try.ntmps36
  go_wp2_with fail
  go_step3
  go_wp2_with fail
  refine c1.mono ?_
  rintro e w1 ⟨rfl, hb1⟩
  have hr1 := hr.bound.below hb1
  have hs1 := hb1.size
  clear c1
  have E1 : OwnS w.heap.size (w1.alloc (.cells #[] 43)) (.slice (some ⟨w1.heap.size, 0, none⟩) 0 0) 0 [] := World.ownsRow_made (e := 43) (size := 6) (base := w.heap.size) w1 #[] 0 hs1 (by unfold maxLen; omega) rfl
  have E2 : OwnS w.heap.size ((w1.alloc (.cells #[] 43)).alloc (.cells #[] 64)) (.slice (some ⟨w1.heap.size, 0, none⟩) 0 0) 0 [] := own_below E1 (below_alloc _ _)
  have E3 : OwnF w.heap.size ((w1.alloc (.cells #[] 43)).alloc (.cells #[] 64)) (.slice (some ⟨w1.heap.size + 1, 0, none⟩) 0 0) [] := by
    have h := World.ownsRow_made (e := 64) (size := 2) (base := w.heap.size) (w1.alloc (.cells #[] 43)) #[] 0 (by simp; omega) (by unfold maxLen; omega) rfl
    simpa [OwnF, opens, intVals] using h
  have E4 : apart (.slice (some ⟨w1.heap.size, 0, none⟩) 0 0) (.slice (some ⟨w1.heap.size + 1, 0, none⟩) 0 0) := fun k e e' => by
    simp [Value.ownBlock] at e e'
    omega
  have hb2 := low_alloc (low_alloc hb1 (.cells #[] 43)) (.cells #[] 64)
  clear E1 hb1 hr1
  go_wp2_with fail
  go_step3
  go_wp2_with fail
  go_loopg [4, 5, 17] n (fun gk uv ov i wr => ∃ (k : Nat) (C : List St) (K : Fr), k ≤ n ∧ gk = n - k ∧ i = .int .i64 k ∧ OwnS w.heap.size wr uv (full C K).length (full C K) ∧ OwnF w.heap.size wr ov K ∧ apart uv ov ∧ Hid (At ss k C K) ∧ Below w.heap.size w wr)
  case atStart => exact ⟨0, [], [], Nat.zero_le _, rfl, rfl, E2, E3, E4, HA, hb2⟩
  case round =>
    obtain ⟨wo, rfl⟩ : ∃ wo : World, wo = wr := ⟨_, rfl⟩
    obtain ⟨k, C, K, hk, hgk, rfl, hown, hop, hap, hA, hb⟩ := hrel
    clear HA hb2 E2 E3 E4
    have hdeep := hA.out.deep
    have hbd := hA.out.bound
    have hsz := hb.size
    obtain ⟨Au, lu, cu, rfl, hlu⟩ := ownsRow_slice hown
    obtain ⟨Ao, lo, co, rfl, hlo⟩ := ownsRow_slice hop
    generalize hll : (full C K).length = sl at *
    subst hlu hlo
    have Hll := Lib.hid hll
    by_cases hlt : k < n
    · rcases hs : ss.getD k s0 with ⟨op, d, a, b, c, m⟩
      have hlk : k < ss.length := by rw [Hl.out]; exact hlt
      obtain ⟨g, o, rfl, hbl, q0, q1, q2, q3, q4, q5⟩ := cell6 (hr.bound.below hb) hlk hs
      have hcase : op = 12 ∨ op = 13 ∨ (op ≠ 12 ∧ op ≠ 13) := by omega
      have k0 : (0 : Int) ≤ k := by omega
      have k1 : (k : Int) < n := by omega
      clear hr hll
      rcases hcase with rfl | rfl | ⟨h12, h13⟩
      · obtain ⟨hA2, hm1, hm8⟩ := hA.out.loop hlk hs rfl
        have HA2 := Lib.hid hA2
        have hb2 := low_alloc hb (.cells #[.int .i64 12, .int .i64 d, .int .i64 a, .int .i64 b, .int .i64 c, .int .i64 m] 43)
        have hop2 : OwnF w.heap.size _ _ K := own_below hop (below_alloc wo (.cells #[.int .i64 12, .int .i64 d, .int .i64 a, .int .i64 b, .int .i64 c, .int .i64 m] 43))
        have hb3 := low_alloc hb2 (.cells #[.int .i64 (sl : Int), .int .i64 m] 64)
        have hop3 := own_below hop2 (below_alloc _ (.cells #[.int .i64 (sl : Int), .int .i64 m] 64))
        have hown3 := own_below (own_below hown (below_alloc wo (.cells #[.int .i64 12, .int .i64 d, .int .i64 a, .int .i64 b, .int .i64 c, .int .i64 m] 43))) (below_alloc _ (.cells #[.int .i64 (sl : Int), .int .i64 m] 64))
        clear hA hA2 hs hlk hown
        go_wp2_with (first | (at_builtin; go_loud (refine app_list (e' := 64) elemOpen rfl _ _ rfl w.heap.size _ K.length (intVals (opens K)) rfl hop3 (wo.heap.size + 1) 1 1 _ (0, 0) rfl (new_at _ _ _ (by simp)) rfl (oneCell_i64 [_, _]) (by omega) (by unfold maxLen; omega) (by omega) (by simp; omega) (wo.heap.size + 1 + 1) (by simp) ?_)))
        intro g2 cap w4 hown4 hgrow hat hgl2
        have hb4 := below_own hb3 hop3 hgrow (Nat.le_refl _) hb3.size
        have Hop4 := Lib.hid (OwnF.push (n := m.toNat) (p := C) (by rw [Hll.out]) (by omega) hown4)
        have hap4 : apart (.slice Au sl cu) (.slice (some ⟨g2, 0, none⟩) (K.length + 1) cap) := (apart_app hap.symm (fun k e => (World.ownsRow.lt hown3 k e).2) (by simpa using hat)).symm
        have Hown5 : Hid (OwnS w.heap.size w4 (.slice Au sl cu) (full [] ((m.toNat, C) :: K)).length (full [] ((m.toNat, C) :: K))) := by
          rw [full_nil, Hll.out]
          exact Lib.hid (World.ownsRow.kept hown3 hgrow (by
            rcases hv : (Value.slice Au sl cu).ownBlock with _ | k
            · exact .inl rfl
            · exact .inr (fun e => hap k hv e.symm)))
        clear hown4 hop2 hop3 hgrow hat hgl2 hb2 hb hb3 hown3 hap hop
        go_wp2_with fail
        go_roundg (n - (k + 1))
        case rel => exact ⟨k + 1, [], (m.toNat, C) :: K, by omega, rfl, by go_num, Hown5.out, Hop4.out, hap4, HA2, hb4⟩
        case measure => omega
      · obtain ⟨t, p, K', rfl, ht1, ht8, hA2⟩ := hA.out.end_ hlk hs rfl
        have HA2 := Lib.hid hA2
        have hK2 : K'.length ≤ 1000000 := by rw [List.length_cons] at hdeep; omega
        have hK3 : K'.length ≤ 3 := by rw [List.length_cons] at hdeep; omega
        rw [List.length_cons] at hop hap ⊢
        have c3 := fun w' h => impl_closeInnermost w.heap.size t co Ao K' p w' h hK2
        have hb2 := low_alloc (low_alloc hb (.cells #[.int .i64 13, .int .i64 d, .int .i64 a, .int .i64 b, .int .i64 c, .int .i64 m] 43)) (.cells #[.int .i64 0, .int .i64 0] 64)
        have hop2 := own_below (own_below hop (below_alloc wo (.cells #[.int .i64 13, .int .i64 d, .int .i64 a, .int .i64 b, .int .i64 c, .int .i64 m] 43))) (below_alloc _ (.cells #[.int .i64 0, .int .i64 0] 64))
        have hC : C.length ≤ 20480 := by
          have := Hll.out
          simp only [full, List.length_append] at this
          omega
        have hst : (full p K').length + C.length = sl := by
          have := Hll.out
          simp only [full, List.length_append] at this
          exact this
        have hunder := HA2.out.under
        rw [full_app, List.length_append, rep_length] at hunder
        have Hunder := Lib.hid hunder
        clear hunder hA hA2 hs hlk
        go_wp2_with fail
        refine (c3 _ hop2).mono ?_
        rintro e w2 ⟨rfl, hb3⟩
        generalize hstt : (full p K').length = st at *
        have Hstt := Lib.hid hstt
        clear hstt
        have hbox := heap_below (new_at (wo.alloc (.cells #[.int .i64 13, .int .i64 d, .int .i64 a, .int .i64 b, .int .i64 c, .int .i64 m] 43)) (.cells #[.int .i64 0, .int .i64 0] 64) (wo.heap.size + 1) (by simp)) hb3
        obtain ⟨z0, f0⟩ := blk (i := 0) hbox rfl
        obtain ⟨z1, f1⟩ := blk (i := 1) hbox rfl
        have hb4 := hb2.trans (hb3.mono hb2.size)
        have hbw : Below wo.heap.size wo w2 := (low_alloc (below_alloc wo (.cells #[.int .i64 13, .int .i64 d, .int .i64 a, .int .i64 b, .int .i64 c, .int .i64 m] 43)) (.cells #[.int .i64 0, .int .i64 0] 64)).trans (hb3.mono (by simp; omega))
        have hbx := (hbw.setCell (p := ⟨wo.heap.size + 1, 0, none⟩) (by simp) (.int .i64 (st : Int))).setCell (p := ⟨wo.heap.size + 1, 1, none⟩) (by simp) (.int .i64 (t : Int))
        have hop5 := OwnF.pop (own_below hop hbx)
        have hown5 : OwnS w.heap.size _ (.slice Au sl cu) sl (full p K' ++ C) := own_below hown hbx
        have hb5 := (hb4.setCell (p := ⟨wo.heap.size + 1, 0, none⟩) (by simp; omega) (.int .i64 (st : Int))).setCell (p := ⟨wo.heap.size + 1, 1, none⟩) (by simp; omega) (.int .i64 (t : Int))
        have hap5 : apart (.slice Au sl cu) (.slice Ao K'.length co) := fun k e e' => hap k e (by rw [← e']; cases Ao <;> rfl)
        have hcap : sl ≤ cu := by
          rcases hown5.2 with ⟨h1, h2⟩ | ⟨g', cap', cur, h1, h2, h3, h4, _⟩
          · omega
          · injection h1 with _ _ h13; omega
        have hsl : sl ≤ 20480 := by omega
        have Hb5 := Lib.hid hb5
        have Hop5 := Lib.hid hop5
        have Hown5 := Lib.hid hown5
        have Hap5 := Lib.hid hap5
        have hbox3 := heap_set (i := 1) (heap_set (i := 0) hbox (.int .i64 (st : Int))) (.int .i64 (t : Int))
        clear hb3 hb2 c3 hop2 hop hap hown hb hbox hbw hbx hb4 hb5 hop5 hown5 hap5 q0 q1 q2 q3 q4 q5
        go_upto_region 15 with fail
        clear z0 z1 f0 f1
        generalize (w2.setCell ⟨wo.heap.size + 1, 0, none⟩ (.int .i64 (st : Int))).setCell ⟨wo.heap.size + 1, 1, none⟩ (.int .i64 (t : Int)) = W3 at *
        have z0 := (blk (i := 0) hbox3 rfl).1
        have z1 := (blk (i := 1) hbox3 rfl).1
        have Hwo : Hid (wo.heap.size + 1 < W3.heap.size) := Lib.hid (heap_lt hbox3)
        clear hbox3
        have Hcases : (cu - st = 0 ∧ ∃ Ab cb, Hid (Value.slice Ab (sl - st) cb = .slice Au (sl - st) 0) ∧ Hid (Src 6 W3 (.slice Au sl cu) sl Ab (flat C))) ∨ (¬ cu - st = 0 ∧ ∃ g' Ab cb, Au = some ⟨g', 0, none⟩ ∧ Hid (Value.slice Ab (sl - st) cb = .slice (some ⟨g', st * 6, none⟩) (sl - st) (cu - st)) ∧ Hid (Src 6 W3 (.slice Au sl cu) sl Ab (flat C))) := by
          by_cases hz : cu - st = 0
          · refine .inl ⟨hz, Au, 0, Lib.hid rfl, Lib.hid (Src.tail Hown5.out Hstt.out Au (fun hne => absurd (List.eq_nil_of_length_eq_zero (by omega)) hne))⟩
          · refine .inr ⟨hz, ?_⟩
            rcases Hown5.out.2 with ⟨h1, h2⟩ | ⟨g', cap', cur, h1, h2⟩
            · injection h1 with _ _ h13
              omega
            · injection h1 with h11 _ _
              exact ⟨g', some ⟨g', st * 6, none⟩, cu - st, h11, Lib.hid rfl, Lib.hid (Src.tail Hown5.out Hstt.out _ (fun _ g2 hg2 => by rw [h11] at hg2; injection hg2 with hg2; injection hg2 with hg2; rw [hg2]))⟩
        have Hfl : Hid ((flat C).length = (sl - st) * 6) := by
          rw [flat_length]
          exact Lib.hid (by omega)
        have s0 : (0 : Int) ≤ st := by omega
        have s1 : (st : Int) ≤ sl := by omega
        have s2 : (st : Int) ≤ cu := by omega
        have s3 : (sl : Int) ≤ cu := by omega
        have HL0 : Hid ((full p K' ++ rep (0 + 1) C).length = sl) := by
          rw [rep, rep, List.nil_append, List.length_append, Hstt.out]
          exact Lib.hid hst
        have HO0 : Hid (OwnS w.heap.size W3 (.slice Au sl cu) sl (full p K' ++ rep (0 + 1) C)) := by
          rw [rep, rep, List.nil_append]
          exact Hown5
        have hC2 : C.length = sl - st := by omega
        have hst2 : st ≤ 20480 := by omega
        have HC2 := Lib.hid hC2
        clear hC2 hst Hown5 hC
        rcases Hcases with ⟨hz, Ab, cb, HAb, HSrc⟩ | ⟨hz, g', Ab, cb, rfl, HAb, HSrc⟩
        all_goals
          go_wp2_with fail
          go_loopg [4, 51] (t - 1) (fun gi uv iv wr => ∃ (i sx : Nat), i + 1 ≤ t ∧ gi = t - 1 - i ∧ iv = .int .i64 i ∧ Hid ((full p K' ++ rep (i + 1) C).length = sx) ∧ Hid (OwnS w.heap.size wr uv sx (full p K' ++ rep (i + 1) C)) ∧ Hid (Src 6 wr uv sx Ab (flat C)) ∧ Hid (OwnF w.heap.size wr (.slice Ao K'.length co) K') ∧ Hid (apart uv (.slice Ao K'.length co)) ∧ Hid (Below w.heap.size w wr))
          case atStart => exact ⟨0, sl, by omega, by omega, rfl, HL0, HO0, HSrc, Hop5, Hap5, Hb5⟩
          case round =>
            obtain ⟨i, sx, hi, hgi, rfl, HLx, HOx, HSx, Hopx, Hapx, Hbx⟩ := hrel
            clear HL0 HO0 HSrc Hop5 Hap5 Hb5
            obtain ⟨Ax, lx, cx, rfl, hlx⟩ := ownsRow_slice HOx.out
            subst hlx
            have i0 : (0 : Int) ≤ i := by omega
            have hsx : sx ≤ 184320 := by
              have h1 := HLx.out
              rw [List.length_append, rep_length, Hstt.out, HC2.out] at h1
              have h2 : (i + 1) * (sl - st) ≤ 8 * 20480 := Nat.mul_le_mul (by omega) (by omega)
              omega
            by_cases hit : i + 1 < t
            · have i1 : (i : Int) < t - 1 := by omega
              go_wp2_with (at_builtin; go_loud (refine app_src elemStmt rfl _ _ rfl w.heap.size _ sx _ rfl HOx.out Ab (sl - st) cb (flat C) (by rw [HAb.out]; rfl) HSx.out Hfl.out (by unfold maxLen; omega) (by omega) Hbx.out.size ?_))
              intro v7 w7 hown7 hgrow hat hsrc7
              have Hb7 := Lib.hid (below_own Hbx.out HOx.out hgrow (Nat.le_refl _) Hbx.out.size)
              have Hap7 := Lib.hid (apart_app' Hapx.out (fun k e => (World.ownsRow.lt Hopx.out k e).2) hat)
              have Hop7 : Hid (OwnF w.heap.size w7 (.slice Ao K'.length co) K') := Lib.hid (World.ownsRow.kept Hopx.out hgrow (by
                rcases hv : (Value.slice Ao K'.length co).ownBlock with _ | k
                · exact .inl rfl
                · exact .inr (fun e => Hapx.out k e.symm hv)))
              have HL7 : Hid ((full p K' ++ rep (i + 1 + 1) C).length = sx + (sl - st)) := by
                rw [rep, ← List.append_assoc, List.length_append, HLx.out, HC2.out]
                exact Lib.hid rfl
              have HO7 : Hid (OwnS w.heap.size w7 v7 (sx + (sl - st)) (full p K' ++ rep (i + 1 + 1) C)) := by
                have h1 := OwnS.app hown7
                rw [rep, ← List.append_assoc]
                exact Lib.hid h1
              have HS7 := Lib.hid hsrc7
              have Hun : Hid (sx + (sl - st) ≤ (unrollL ss).length) := by
                have h1 := HL7.out
                have h2 := Hunder.out
                rw [List.length_append, rep_length, Hstt.out] at h1
                have h3 : (i + 1 + 1) * C.length ≤ t * C.length := Nat.mul_le_mul_right _ (by omega)
                exact Lib.hid (by omega)
              clear hown7 hgrow hat hsrc7 HOx HSx Hopx Hapx Hbx HLx
              obtain ⟨A7, l7, c7, rfl, hl7⟩ := ownsRow_slice HO7.out
              have sxi : (sx : Int) ≤ 184320 := by omega
              generalize hq7 : sx + (sl - st) = q7 at *
              subst hl7
              have hq8 : q7 ≤ 204800 := by omega
              clear hq7
              by_cases h120 : 120 < q7
              · have hres := Lib.hid (Hno.out w7 q7 h120 Hun.out Hb7.out)
                have h120' : (120 : Int) < q7 := by omega
                go_wp2_with fail
                (try rw [Exit.noGoto_ret])
                go_returns
                exact hres.out
              · have h120' : ¬ (120 : Int) < q7 := by omega
                go_wp2_with fail
                go_roundg (t - 1 - (i + 1))
                case rel => exact ⟨i + 1, q7, by omega, by omega, by go_num, HL7, HO7, HS7, Hop7, Hap7, Hb7⟩
                case measure => omega
            · have i1 : ¬ (i : Int) < t - 1 := by omega
              obtain rfl : t = i + 1 := by omega
              have HO9 : Hid (OwnS w.heap.size wr (.slice Ax sx cx) (full (p ++ rep (i + 1) C) K').length (full (p ++ rep (i + 1) C) K')) := by
                rw [full_app, HLx.out]
                exact HOx
              clear HOx HSx HLx
              go_wp2_with fail
              go_roundg (n - (k + 1))
              case rel => exact ⟨k + 1, _, K', by omega, rfl, by go_num, HO9.out, Hopx.out, Hapx.out, HA2, Hbx.out⟩
              case measure => omega
      · have hA2 := hA.out.plain hlk hs h12 h13
        have HA2 := Lib.hid hA2
        have hb2 := low_alloc hb (.cells #[.int .i64 op, .int .i64 d, .int .i64 a, .int .i64 b, .int .i64 c, .int .i64 m] 43)
        have hb3 := low_alloc hb2 (.cells #[.int .i64 op, .int .i64 d, .int .i64 a, .int .i64 b, .int .i64 c, .int .i64 m] 43)
        have hop3 : OwnF w.heap.size _ _ K := own_below (own_below hop (below_alloc wo (.cells #[.int .i64 op, .int .i64 d, .int .i64 a, .int .i64 b, .int .i64 c, .int .i64 m] 43))) (below_alloc _ (.cells #[.int .i64 op, .int .i64 d, .int .i64 a, .int .i64 b, .int .i64 c, .int .i64 m] 43))
        have hown3 := own_below (own_below hown (below_alloc wo (.cells #[.int .i64 op, .int .i64 d, .int .i64 a, .int .i64 b, .int .i64 c, .int .i64 m] 43))) (below_alloc _ (.cells #[.int .i64 op, .int .i64 d, .int .i64 a, .int .i64 b, .int .i64 c, .int .i64 m] 43))
        clear hA hA2 hs hlk hown hop
        go_wp2_with (first | (at_builtin; go_loud (refine app_list (e' := 43) elemStmt rfl _ _ rfl w.heap.size _ sl (intVals (flat (full C K))) rfl hown3 (wo.heap.size + 1) 1 1 _ (0, 0) rfl (new_at _ _ _ (by simp)) rfl (oneCell_i64 [_, _, _, _, _, _]) (by omega) (by unfold maxLen; omega) (by omega) (by simp; omega) (wo.heap.size + 1 + 1) (by simp) ?_)))
        intro g2 cap w4 hown4 hgrow hat hgl2
        have hb4 := below_own hb3 hown3 hgrow (Nat.le_refl _) hb3.size
        have hap4 : apart (.slice (some ⟨g2, 0, none⟩) (sl + 1) cap) (.slice Ao K.length co) := apart_app hap (fun k e => (World.ownsRow.lt hop3 k e).2) (by simpa using hat)
        have hop4 : OwnF w.heap.size w4 (.slice Ao K.length co) K := World.ownsRow.kept hop3 hgrow (by
            rcases hv : (Value.slice Ao K.length co).ownBlock with _ | k
            · exact .inl rfl
            · exact .inr (fun e => hap k e.symm hv))
        have Hown5 : Hid (OwnS w.heap.size w4 (.slice (some ⟨g2, 0, none⟩) (sl + 1) cap) (full (C ++ [(⟨op, d, a, b, c, m⟩ : St)]) K).length (full (C ++ [(⟨op, d, a, b, c, m⟩ : St)]) K)) := by
          rw [full_app, List.length_append, Hll.out]
          exact Lib.hid (OwnS.one hown4)
        have Hop4 := Lib.hid hop4
        clear hown4 hop3 hgrow hat hgl2 hb2 hb hb3 hown3 hap hop4
        go_wp2_with fail
        go_roundg (n - (k + 1))
        case rel => exact ⟨k + 1, _, K, by omega, rfl, by go_num, Hown5.out, Hop4.out, hap4, HA2, hb4⟩
        case measure => omega
    · obtain rfl : k = n := by omega
      have hA2 := hA.out
      rw [← Hl.out] at hA2
      obtain ⟨rfl, he⟩ := hA2.done
      have hzz : sl = (unrollL ss).length := by rw [he, ← Hll.out]; rfl
      have hown2 : OwnS w.heap.size wo (.slice Au sl cu) sl (unrollL ss) := by rw [he]; exact hown
      have Hzz := Lib.hid hzz
      clear hA hA2 he hown hr hll hzz
      by_cases h120 : 120 < sl
      · have hres := Lib.hid (Hno.out wo sl h120 (Nat.le_of_eq Hzz.out) hb)
        have h120' : (120 : Int) < sl := by omega
        clear hown2
        go_wp2_with fail
        (try rw [Exit.noGoto_ret])
        go_returns
        exact hres.out
      · have hres := Lib.hid (Hyes.out wo Au sl cu (by omega) Hzz.out hown2 hb)
        have h120' : ¬ (120 : Int) < sl := by omega
        clear hown2
        go_wp2_with fail
        (try rw [Exit.noGoto_ret])
        go_returns
        exact hres.out
end Go.Proofs.Ytklmhkckhdmelaa
