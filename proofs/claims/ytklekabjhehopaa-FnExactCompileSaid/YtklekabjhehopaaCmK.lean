/- Compilation: Compile, the model's. No condition. -/
import Derived.Test.YtklekabjhehopaaProg
import Derived.Test.YtklekabjhehopaaCmJ
import Derived.Test.YtklekabjhehopaaCG
import Derived.Test.YtklekabjhehopaaB1
import Derived.Deep.RegionLaw
import Derived.Deep.RegionHeld3
namespace Go.Proofs.Ytklekabjhehopaa
open Go Go.RowKit
set_option maxRecDepth 100000 in
set_option maxHeartbeats 2000000 in
theorem spec_Compile (A : Option Addr) (n cp : Nat) (ss : List St) (w : World) (hr : Ints w A (flat ss)) (hl : ss.length = n) (hn : n ≤ 2000000) :
    Calls Try.prog 31 #[.slice A n cp] w (Post_Circuit_bool (cmpI ss).1 (cmpI ss).2 (decide (unrI ss)) w) := by
  have al := below_alloc w (.cells #[.slice none 0 0, .slice none 0 0] 31)
  have b0 := heap_alloc_new w (.cells #[.slice none 0 0, .slice none 0 0] 31)
  have sz0 : (w.alloc (.cells #[.slice none 0 0, .slice none 0 0] 31)).heap.size = w.heap.size + 1 := by simp
  have c1 := spec_Unroll A n cp ss (w.alloc (.cells #[.slice none 0 0, .slice none 0 0] 31)) (hr.below al) hl hn
  generalize hw0 : w.alloc (.cells #[.slice none 0 0, .slice none 0 0] 31) = w0 at *
  unfold Post_S_bool at c1
  unfold unrV at c1
  by_cases hu : unrI ss
  case neg =>
    rw [if_neg hu, decide_eq_false hu] at c1
    rw [cmp_none hu, decide_eq_false hu]
    clear hu hr
    go_enter Try.func31, Try.ntmps31
    go_wp2_with fail
    refine c1.mono ?_
    rintro e w1 ⟨B, m, c, rfl, -, -, hb⟩
    have ac := below_alloc w1 (.cells #[.slice none 0 0, .slice none 0 0] 31)
    have bc := heap_alloc_new w1 (.cells #[.slice none 0 0, .slice none 0 0] 31)
    have b1 := heap_below (heap_below b0 hb) ac
    obtain ⟨x0, f0⟩ := blk (i := 0) b1 rfl
    obtain ⟨x1, f1⟩ := blk (i := 1) b1 rfl
    obtain ⟨y0, _⟩ := blk (i := 0) bc rfl
    obtain ⟨y1, _⟩ := blk (i := 1) bc rfl
    have R := Lib.hid (heap_set (i := 1) (heap_set (i := 0) b1 (.slice none 0 0)) (.slice none 0 0))
    have L := Lib.hid ((((al.trans (hb.mono al.size)).trans (ac.mono (by have := hb.size; omega))).setCell (p := ⟨w.heap.size, 0, none⟩) (Nat.le_refl _) (.slice none 0 0)).setCell (p := ⟨w.heap.size, 1, none⟩) (Nat.le_refl _) (.slice none 0 0))
    clear c1
    go_wp2_with fail
    refine bodyPost_ret (results_cell_tmp_row (P := Try.prog) rfl _ _ _ w.heap.size 31 _ (0, 0) _ rfl rfl R.out Try.underlying31 rfl (by kernel_rfl)) rfl ?_
    exact ⟨none, none, 0, 0, 0, 0, rfl, OwnCircuit.nil _ _ _, L.out⟩
  rw [if_pos hu, decide_eq_true hu] at c1
  rw [decide_eq_true hu, show cmpI ss = cmpAll (unrollL ss) cz (List.replicate 8 cw) [] 0 from if_pos hu]
  have hz := hu.2
  have HP := Lib.hid (plain_ok hu)
  generalize unrollL ss = zs at *
  clear hu hr
  go_enter Try.func31, Try.ntmps31
  go_wp2_with fail
  refine c1.mono ?_
  rintro e w1 ⟨Bx, m, c, rfl, hm, hown, hb1⟩
  have hi := hown.ints
  have Hm := Lib.hid hm
  have hm120 : m ≤ 120 := by omega
  have ac := below_alloc w1 (.cells #[.slice none 0 0, .slice none 0 0] 31)
  have bc := heap_alloc_new w1 (.cells #[.slice none 0 0, .slice none 0 0] 31)
  have b1 := heap_below b0 hb1
  have h0 : Cir w1.heap.size w1.heap.size (w1.alloc (.cells #[.slice none 0 0, .slice none 0 0] 31)) (.slice none 0 0) ⟨[.slice none 0 0], 31⟩ 0 [] := ⟨bc, World.ownsRow_nil _ _ _ _, by simp [Value.ownBlock]⟩
  have t1 := hb1.size
  clear c1 hown hm hz
  go_wp2_with fail
  refine (spec_l14Const w1.heap.size w1.heap.size 0 _ _ [] 0 (by omega) _ h0 (by simp) (by omega)).mono ?_
  rintro e w2 ⟨v, A, k1, d, rfl, l1, h1, t1', wl1⟩
  have e4 : k1 = 4 := by rw [← l1]; rfl
  subst e4
  have hd := wl1.cap
  obtain ⟨qa, rfl, _⟩ := own_addr wl1.own (by omega)
  have G0 : Gr w1.heap.size w1.heap.size w1 (w2.alloc (.cells #[] 29)) v 4 cz (.slice (some ⟨qa, 0, none⟩) 4 d) cw (.slice (some ⟨w2.heap.size, 0, none⟩) 0 0) 0 := by
    have sz : w1.heap.size ≤ w2.heap.size := Nat.le_trans ac.size t1'.size
    refine ⟨h1.alloc _, (wl1.mono ac.size).alloc _, World.ownsRow_made (e := 29) (size := 1) (base := w1.heap.size) w2 #[] 0 sz (by unfold maxLen; omega) rfl, fun e => ?_, fun q e e' => ?_, fun q e e' => ?_, ((ac.trans (t1'.low (Nat.le_refl _) (by simp [Value.ownBlock]) (by simp))).alloc sz _), by simp; omega⟩
    · have e1 : w2.heap.size = w1.heap.size := by simpa [Value.ownBlock] using e
      have := h1.lt
      omega
    · have e1 : w2.heap.size = q := by simpa [Value.ownBlock] using e
      have := (h1.own.lt q e').2
      omega
    · have e1 : w2.heap.size = q := by simpa [Value.ownBlock] using e
      have := (wl1.own.lt q e').2
      omega
  have S0 := Lib.hid G0
  have sz2 := Nat.le_trans ac.size t1'.size
  clear G0 h0 h1 t1' wl1 bc
  go_wp2_with fail
  go_loopw [8, 9] (fun s i wr => ∃ (k : Nat), k ≤ 8 ∧ i = .int .i64 k ∧ Gr w1.heap.size w1.heap.size w1 wr v 4 cz (.slice (some ⟨qa, 0, none⟩) 4 d) cw s k) (fun _ i _ => 8 - (intOf i).toNat)
  case atStart => exact ⟨0, by omega, rfl, S0.out⟩
  case round =>
    obtain ⟨k, hk, rfl, gr⟩ := hrel
    clear S0
    by_cases hlt : k < 8
    · have k0 : (0 : Int) ≤ k := by omega
      have k1 : (k : Int) < 8 := by omega
      have gs := gr.size
      obtain ⟨Au, mu, cu, rfl, rfl⟩ := ownsRow_slice gr.own
      go_wp2_with (first | (at_builtin; refine app_list (e' := 29) elemTab rfl _ _ rfl w1.heap.size _ k (List.replicate k (.slice (some ⟨qa, 0, none⟩) 4 d)) rfl (gr.alloc (.cells #[.slice (some ⟨qa, 0, none⟩) 4 d] 29)).own wr.heap.size 1 1 _ (0, 0) rfl (heap_alloc_new wr _) rfl (oneCell_row _ rfl) (by omega) (by unfold maxLen; omega) (by omega) (by simp; omega) (wr.heap.size + 1) (by simp) ?_))
      intro g5 c5 w5 ho5 hg5 hat5 _
      have H := Lib.hid (gr.app ho5 hg5 hat5)
      clear gr ho5 hg5 hat5
      go_wp2_with fail
      go_roundw
      case rel => exact ⟨k + 1, by omega, by go_num, H.out⟩
      case measure => simp [intOf]; omega
    · obtain rfl : k = 8 := by omega
      obtain ⟨Au, mu, cu, rfl, rfl⟩ := ownsRow_slice gr.own
      obtain ⟨bT, rfl, _⟩ := own_addr gr.own (by omega)
      obtain ⟨hC, hW⟩ := gr.done rfl (Nat.le_refl _)
      have S0 := Lib.hid (And.intro hC (And.intro hW gr.low))
      have S1 := Lib.hid (CmpAt.start zs)
      clear gr hC hW
      rw [show ((8 : Nat) : Int) = 8 from rfl]
      go_wp2_with fail
      go_loopw [10] (fun i wr => ∃ (k : Nat) (v u : Value) (vs : List Value) (n' m' : Nat) (z os : List Int) (rg : List (List Int)), k ≤ m ∧ i = .int .i64 k ∧ n' ≤ 4 + 34 * k ∧ Cs w1.heap.size w1.heap.size bT cu wr v u vs n' m' z os rg ∧ Rw w1.heap.size bT v u wr (some ⟨qa, 0, none⟩) cw ∧ CmpAt zs k z os rg ∧ Below w1.heap.size w1 wr) (fun i _ => m - (intOf i).toNat)
      case atStart => exact ⟨0, v, _, _, 4, 0, _, _, _, Nat.zero_le _, rfl, by omega, S0.out.1, S0.out.2.1, S1.out, S0.out.2.2⟩
      case round =>
        clear S0 S1
        rename_i wr0
        obtain ⟨k, v, u, vs, n', m', z, os, rg, hk, rfl, hn', hC, hW, hD, hb⟩ := hrel
        have lm := hC.outs.len
        have lo := hD.outs
        by_cases hlt : k < m
        · rcases hs : zs.getD k s0 with ⟨op, d, a, b, c2, mm⟩
          have hlk : k < zs.length := by rw [Hm.out]; exact hlt
          obtain ⟨q, o, rfl, hbl, q0, q1, q2, q3, q4, q5⟩ := cell6 (hi.bound.below hb) hlk hs
          obtain ⟨qb, ob, e1, hlq, ⟨nqa, nqab, nvqa, _⟩, hcq⟩ := id hW
          injection e1 with e1; injection e1 with e11 e12; subst e11 e12
          have dq : wr.drew.cell? ⟨qa, 0, none⟩ = some (.int .i64 0) := hcq 0 (by decide)
          have hok := HP.out (zs.getD k s0) (by rw [List.getD_eq_getElem?_getD, List.getElem?_eq_getElem hlk]; exact List.getElem_mem hlk)
          rw [hs] at hok
          obtain ⟨hok1, hok2⟩ := hok
          replace hok1 : okI op d a b c2 mm := hok1
          replace hok2 : op ≤ 11 := hok2
          have hN := Lib.hid (hD.step hlk hs (fun e => by
            have h11 : 0 ≤ a ∧ a < 8 := by
              have := hok1
              unfold okI isReg at this
              omega
            obtain ⟨_, _, _, _, h4, _⟩ := hC.tab.row a.toNat (by omega)
            exact h4))
          have k0 : (0 : Int) ≤ k := by omega
          have k1 : (k : Int) < m := by omega
          have hbT := hC.blt
          have nq : q ≠ w1.heap.size := by omega
          have nqb : q ≠ bT := by omega
          have nvq : v.ownBlock ≠ some q := fun e => by have := hC.vlt q e; omega
          have Bd : w1.heap.size ≤ wr.drew.heap.size := by have := hb.size; simpa using this
          have kd := hC.drew
          have gb : bT < wr.drew.heap.size := hbT.2
          have u0 : ∀ p, u.ownBlock = some p → p < wr.drew.heap.size := fun p e => (hC.outs.own.lt p e).2
          have hWd : Rw w1.heap.size bT v u wr.drew (some ⟨qa, 0, none⟩) cw := hW.tn (Tn.refl _ _ _ _ _).drew
          have hbd : Below w1.heap.size w1 wr.drew := hb.drew
          have d0 : wr.drew.cell? ⟨q, o + k * 6, none⟩ = some (.int .i64 op) := q0
          have d1 : wr.drew.cell? ⟨q, o + k * 6 + 1, none⟩ = some (.int .i64 d) := q1
          have d2 : wr.drew.cell? ⟨q, o + k * 6 + 2, none⟩ = some (.int .i64 a) := q2
          have d3 : wr.drew.cell? ⟨q, o + k * 6 + 3, none⟩ = some (.int .i64 b) := q3
          have d4 : wr.drew.cell? ⟨q, o + k * 6 + 4, none⟩ = some (.int .i64 c2) := q4
          have d5 : wr.drew.cell? ⟨q, o + k * 6 + 5, none⟩ = some (.int .i64 mm) := q5
          clear hs hi hlk hD hb hcq
          by_cases h11 : op = 11
          · subst h11
            have ha8 : 0 ≤ a ∧ a < 8 := by
              have := hok1
              unfold okI isReg at this
              omega
            obtain ⟨a, rfl⟩ := Int.eq_ofNat_of_zero_le ha8.1
            have alt : a < 8 := by omega
            obtain ⟨Aa, ca, ae, _, la, rA⟩ := kd.tab.row a alt
            have iad := rA.ints
            obtain ⟨A0, c0, rfl⟩ := hC.outs.form
            have a0 : (0 : Int) ≤ a := by omega
            have a1 : (a : Int) < 8 := by omega
            obtain ⟨e1, f1⟩ := kd.one
            obtain ⟨e2, f2⟩ := kd.cell alt ae
            clear hok1 hok2 ha8 hC hW
            go_wp2_with fail
            go_region_law (first
              | (refine step_app_ints elemInt (by rfl) (.tmp 43) (.tmp 51) (by rfl) w1.heap.size (.slice A0 m' c0) m' (intVals os) (by rfl) kd.outs.own Aa 4 ca (rg.getD a []) (by rfl) iad la (by unfold maxLen; omega) (by omega) Bd ?_; intro v5 w5 ho5 hg5 hat5; (obtain ⟨A5, q5, c5, rfl, hq5⟩ := ownsRow_slice ho5); (obtain ⟨y1, fy1⟩ := blk (i := 1) (heap_grown kd.cir.box hg5 kd.outs.ne) rfl)))
            all_goals
              have L := Lib.hid (hbd.trans (kd.app_low (u' := .slice A5 q5 c5) hg5 Bd))
              have KK := Lib.hid (kd.app ho5 hg5 hat5)
              have WW := Lib.hid (hWd.tn (Tn.app (u' := .slice A5 q5 c5) (g := w1.heap.size) (b := bT) (v := v) hg5 (fun p e => by
                rcases hat5 with e7 | e7
                · exact .inl (e7 ▸ e)
                · rw [e7] at e
                  injection e with e
                  exact .inr (by omega)) 1 (.slice A5 q5 c5)))
              clear ho5 hg5 hat5 y1 fy1 e1 f1 e2 f2 iad kd hWd rA
              go_wp2_with fail
              go_roundw
              case rel => exact ⟨k + 1, v, .slice A5 q5 c5, vs, n', m' + 4, _, _, _, by omega, by go_num, by omega, KK.out, WW.out, hN.out, L.out⟩
              case measure => simp [intOf]; omega
          · have h10 : op ≤ 10 := by omega
            have hd0 : 0 ≤ d ∧ d < 8 := by
              have := hok1
              unfold okI isReg at this
              omega
            obtain ⟨d, rfl⟩ := Int.eq_ofNat_of_zero_le hd0.1
            have hd8 : d < 8 := by omega
            have r0 : (0 : Int) ≤ d := by omega
            have r1 : (d : Int) < 8 := by omega
            clear hok2 hC hW
            go_wp2_with fail
            go_region_held3 (fun w' => w'.cell? ⟨q, o + k * 6, none⟩ = some (.int .i64 op) ∧ w'.cell? ⟨q, o + k * 6 + 1, none⟩ = some (.int .i64 d) ∧ w'.cell? ⟨q, o + k * 6 + 2, none⟩ = some (.int .i64 a) ∧ w'.cell? ⟨q, o + k * 6 + 3, none⟩ = some (.int .i64 b) ∧ w'.cell? ⟨q, o + k * 6 + 4, none⟩ = some (.int .i64 c2) ∧ w'.cell? ⟨q, o + k * 6 + 5, none⟩ = some (.int .i64 mm) ∧ w'.cell? ⟨qa, 0, none⟩ = some (.int .i64 0)) (first | exact ⟨d0, d1, d2, d3, d4, d5, dq⟩ | exact ⟨z0, z1, z2, z3, z4, z5, zq⟩ | exact ⟨y0, y1, y2, y3, y4, y5, yq⟩) (first
              | (go_at_call 64; (with_reducible refine (spec_l15Word w1.heap.size w1.heap.size bT cu v u vs n' m' z os rg op d a b c2 mm hok1 h10 _ kd Bd (by omega)).mono ?_); rintro e9 w3 ⟨v3, n3, A3, c3, rfl, l3, hn3, h3, t3, wl3⟩; (have z0 := t3.cell d0 nq nvq); (have z1 := t3.cell d1 nq nvq); (have z2 := t3.cell d2 nq nvq); (have z3 := t3.cell d3 nq nvq); (have z4 := t3.cell d4 nq nvq); (have z5 := t3.cell d5 nq nvq); (have zq := t3.cell dq nqa nvqa); (have k3 := kd.next h3 t3); (obtain ⟨s1, f1⟩ := k3.cell hd8 rfl); (have y0 := (World.cell?_setCell_far w3 ⟨bT, d, none⟩ ⟨q, o + k * 6, none⟩ (.slice A3 4 c3) (fun e => nqb e.symm)).trans z0); (have y1 := (World.cell?_setCell_far w3 ⟨bT, d, none⟩ ⟨q, o + k * 6 + 1, none⟩ (.slice A3 4 c3) (fun e => nqb e.symm)).trans z1); (have y2 := (World.cell?_setCell_far w3 ⟨bT, d, none⟩ ⟨q, o + k * 6 + 2, none⟩ (.slice A3 4 c3) (fun e => nqb e.symm)).trans z2); (have y3 := (World.cell?_setCell_far w3 ⟨bT, d, none⟩ ⟨q, o + k * 6 + 3, none⟩ (.slice A3 4 c3) (fun e => nqb e.symm)).trans z3); (have y4 := (World.cell?_setCell_far w3 ⟨bT, d, none⟩ ⟨q, o + k * 6 + 4, none⟩ (.slice A3 4 c3) (fun e => nqb e.symm)).trans z4); (have y5 := (World.cell?_setCell_far w3 ⟨bT, d, none⟩ ⟨q, o + k * 6 + 5, none⟩ (.slice A3 4 c3) (fun e => nqb e.symm)).trans z5); (have yq := (World.cell?_setCell_far w3 ⟨bT, d, none⟩ ⟨qa, 0, none⟩ (.slice A3 4 c3) (fun e => nqab e.symm)).trans zq); (have hc4 := wl3.cap); (have kk := k3.set hd8 hc4 l3 (wl3.rw (by omega) gb u0))))
            all_goals
              have T := Tn.trans (Tn.of_turn t3 bT u) (Tn.set w1.heap.size bT v3 u w3 d (.slice A3 4 c3))
              have L := Lib.hid (hbd.trans (kd.lows T Bd))
              have WW := Lib.hid (hWd.tn T)
              have KK := Lib.hid kk
              have HN := Lib.hid (show CmpAt zs (k + 1) (wordG z rg 0 op a b c2 mm).1 os (rg.set d (wordG z rg 0 op a b c2 mm).2) by
                have := hN.out
                unfold stZ stO stR at this
                rw [if_neg h11, if_neg h11, if_neg h11] at this
                exact this)
              clear h3 t3 wl3 kk k3 kd hWd s1 f1 T z0 y0 z1 y1 z2 y2 z3 y3 z4 y4 z5 y5 zq yq
              go_wp2_with fail
              go_roundw
              case rel => exact ⟨k + 1, v3, u, _, n3, m', _, _, _, by omega, by go_num, by omega, KK.out, WW.out, HN.out, L.out⟩
              case measure => simp [intOf]; omega
        · obtain rfl : k = m := by omega
          have hd9 := hD
          rw [← Hm.out] at hd9
          have Hd := Lib.hid hd9.done
          obtain ⟨A3, q3, c3, rfl, rfl⟩ := ownsRow_slice hC.cir.own
          obtain ⟨A4, q4, c4, rfl, rfl⟩ := ownsRow_slice hC.outs.own
          have hC0 := hC.cir
          obtain ⟨g0, _⟩ := blk (i := 0) hC0.box rfl
          obtain ⟨g1, _⟩ := blk (i := 1) hC0.box rfl
          have bw := (hb.block _ (heap_lt b1)).trans b1
          obtain ⟨x0, f0⟩ := blk (i := 0) bw rfl
          obtain ⟨x1, f1⟩ := blk (i := 1) bw rfl
          have R := Lib.hid (heap_set (i := 1) (heap_set (i := 0) bw (.slice A3 n' c3)) (.slice A4 m' c4))
          have hg : w.heap.size < w1.heap.size := by omega
          have O := Lib.hid (show OwnCircuit w.heap.size wr.heap.size ((wr.setCell ⟨w.heap.size, 0, none⟩ (.slice A3 n' c3)).setCell ⟨w.heap.size, 1, none⟩ (.slice A4 m' c4)) (.slice A3 n' c3) (.slice A4 m' c4) n' m' z os from ⟨(((OwnA.of_own hC.cir.own).setFar hg _).setFar hg _).wide (by omega) (Nat.le_refl _), (((OwnA.of_own hC.outs.own).setFar hg _).setFar hg _).wide (by omega) (Nat.le_refl _), hC.outs.ap.symm⟩)
          have L := Lib.hid ((((al.trans (hb1.mono al.size)).trans (hb.mono (by omega))).setCell (p := ⟨w.heap.size, 0, none⟩) (Nat.le_refl _) (.slice A3 n' c3)).setCell (p := ⟨w.heap.size, 1, none⟩) (Nat.le_refl _) (.slice A4 m' c4))
          clear hD hi hd9 hC hC0 hW
          go_wp2_with fail
          refine bodyPost_ret (results_cell_tmp_row (P := Try.prog) rfl _ _ _ w.heap.size 31 _ (0, 0) _ rfl rfl R.out Try.underlying31 rfl (by kernel_rfl)) rfl ?_
          have e : cmpAll zs cz [cw, cw, cw, cw, cw, cw, cw, cw] [] 0 = (z, os) := Hd.out
          rw [e]
          exact ⟨A3, A4, n', m', c3, c4, rfl, O.out.wide (Nat.le_refl _) (by simp), L.out⟩
end Go.Proofs.Ytklekabjhehopaa
