/- The draws of programs: a block with loops inside, a program. No condition. -/
import Derived.Test.YtklmhkckhdmelaaProg
import Derived.Test.YtklmhkckhdmelaaPgD
namespace Go.Proofs.Ytklmhkckhdmelaa
open Go Go.RowKit
theorem len_cast {ss : List St} {n : Nat} (h : ss.length = n) : ss.length = n := h
set_option maxRecDepth 100000 in
set_option maxHeartbeats 2000000 in
theorem l08Block_at (B g dep h M n : Nat) (hn : n ≤ 8) (hd : dep ≤ 2) (hM : 1 ≤ M) (hM2 : M ≤ 10)
    (hrec : dep < 2 → ∃ h', h = h' + 1 ∧ ∀ (w : World) (x : Int), 0 ≤ x → x < 2 → Cur 89 B w g →
      Calls Try.prog 50 #[.pointer (some ⟨g, 0, none⟩), .int .i64 (1 + x), .int .i64 ((dep : Int) + 1)] w (DrawnSS 89 B g (fun ts => Blk8 h' ts ∧ ts.length + 2 ≤ M) w))
    (w : World) (hc : Cur 89 B w g) :
    Calls Try.prog 50 #[.pointer (some ⟨g, 0, none⟩), .int .i64 (n : Int), .int .i64 (dep : Int)] w (DrawnSS 89 B g (Rnd h M n) w) := by
  have hgl := hc.lt
  have R := RunD.start hc
  have Hrec := Lib.hid hrec
  clear hrec
  go_enter Try.func50, Try.ntmps50
  go_wp2_with fail
  go_loopw [7, 8] (fun v i wr => ∃ (k : Nat) (ss : List St), k ≤ n ∧ i = .int .i64 k ∧ OwnS w.heap.size wr v ss.length ss ∧ Hid (Rnd h M k ss) ∧ RunD 89 B g w wr) (fun _ i _ => n - (intOf i).toNat)
  case atStart => exact ⟨0, [], Nat.zero_le _, rfl, World.ownsRow_made (e := 43) (size := 6) (base := w.heap.size) w #[] 0 (Nat.le_refl _) (by unfold maxLen; omega) rfl, Lib.hid (Rnd.nil h M), R.alloc _⟩
  case round =>
    obtain ⟨k, ss, hk, rfl, hown, hrd, R1⟩ := hrel
    clear R hc
    by_cases hlt : k < n
    · have hl18 := hrd.out.l2
      have k0 : (0 : Int) ≤ k := by omega
      have k1 : (k : Int) < n := by omega
      obtain ⟨A, m, c, rfl, hm⟩ := ownsRow_slice hown
      generalize hll : ss.length = sl at *
      subst hm
      have Hll := Lib.hid hll
      clear hll
      by_cases hd2 : dep < 2
      · obtain ⟨h', rfl, hcall⟩ := Hrec.out hd2
        by_cases h12 : sl < 12
        · go_wp2_with fail
          refine (l01Once_any B g 8 _ R1.cur).mono ?_
          rintro e w2 ⟨bb, rfl, hc1, hg1⟩
          have R2 := R1.next hc1 hg1
          have hown2 := own_cur hown hg1 hgl
          clear hc1 hg1 hown R1
          cases bb
          · go_wp2_with fail
            refine (l08Stmt_any B g _ R2.cur).mono ?_
            rintro e w9 ⟨⟨op, d, a, b, c2, m2⟩, rfl, hps, R9'⟩
            have R9 := R2.next R9'.cur R9'.gr
            have hown1 := own_cur hown2 R9'.gr hgl
            have hnx := Lib.hid (hrd.out.one hps hM)
            have hs1 := R9.size
            clear hown2 R2 R9' hrd hps
            simp only [St.v]
            go_wp2_with (first | (at_builtin; refine app_list (e' := 43) elemStmt rfl _ _ rfl w.heap.size _ sl (intVals (flat ss)) rfl (own_below hown1 (below_alloc _ _)) w9.heap.size 1 1 _ (0, 0) rfl (heap_alloc_new w9 _) rfl (oneCell_i64 [_, _, _, _, _, _]) (by omega) (by unfold maxLen; omega) (by omega) (by simp; omega) (w9.heap.size + 1) (by simp) ?_))
            intro g2 cap w10 hownq hgrow hat hgl2
            have R3 := (R9.alloc _).own (own_below hown1 (below_alloc _ _)) hgrow (Nat.le_refl _)
            have hown3 := OwnS.one hownq
            have Hown3 := Lib.hid hown3
            have HR3 := Lib.hid R3
            have HL : Hid ((ss ++ [(⟨op, d, a, b, c2, m2⟩ : St)]).length = sl + 1) := by rw [List.length_append, Hll.out]; exact Lib.hid rfl
            clear hown3 hownq hown1 hgrow hat hgl2 R9 R3
            go_wp2_with fail
            go_roundw
            case rel => exact ⟨k + 1, _, by omega, by go_num, by rw [HL.out]; exact Hown3.out, hnx, HR3.out⟩
            case measure => simp [intOf]; omega
          · go_wp2_with fail
            refine (l01Below_any B g 3 _ R2.cur).mono ?_
            rintro e w3 ⟨x, rfl, ⟨_, hx⟩, hc1, hg1⟩
            replace hx := hx (by omega)
            have R3 := R2.next hc1 hg1
            have hown3 := own_cur hown2 hg1 hgl
            obtain ⟨hx0, hx1⟩ := hx
            have hs1 := R3.size
            clear hc1 hg1 R2 hown2
            go_wp2_with (first | (at_builtin; refine app_list (e' := 43) elemStmt rfl _ _ rfl w.heap.size _ sl (intVals (flat ss)) rfl (own_below hown3 (below_alloc _ _)) w3.heap.size 1 1 _ (0, 0) rfl (heap_alloc_new w3 _) rfl (oneCell_i64 [_, _, _, _, _, _]) (by omega) (by unfold maxLen; omega) (by omega) (by simp; omega) (w3.heap.size + 1) (by simp) ?_))
            intro g2 cap w4 hown4 hgrow hat hgl2
            have R4 := (R3.alloc _).own (own_below hown3 (below_alloc _ _)) hgrow (Nat.le_refl _)
            replace hown4 := OwnS.one hown4
            clear hown3 R3 hgrow hat hgl2
            go_wp2_with fail
            refine (l01Below_any B g 2 _ R4.cur).mono ?_
            rintro e w5 ⟨y, rfl, ⟨_, hy⟩, hc1, hg1⟩
            replace hy := hy (by omega)
            have R5 := R4.next hc1 hg1
            have hown5 := own_cur hown4 hg1 hgl
            obtain ⟨hy0, hy1⟩ := hy
            clear hc1 hg1 R4 hown4
            go_wp2_with fail
            refine (hcall _ y hy0 hy1 R5.cur).mono ?_
            rintro e w6 ⟨A6, m6, c6, ts, rfl, hl6, ⟨hb6, hM6⟩, hown6, R6'⟩
            have R6 := R5.next R6'.cur R6'.gr
            have hown5' := own_cur hown5 R6'.gr hgl
            have hi6 := (OwnS.ints hown6).1
            have hm6 : m6 ≤ 8 := by omega
            have hs6 := R6.size
            have hfl6 : (flat ts).length = m6 * 6 := by rw [flat_length, hl6]
            have Hfl := Lib.hid hfl6
            have hnx := Lib.hid (hrd.out.loop hb6 ⟨hx0, hx1⟩ (by rw [Hll.out]; exact h12) hM6 hM2)
            have Hl6 := Lib.hid hl6
            clear hown5 R5 R6' hrd hb6 hown6 hfl6 hl6
            go_wp2_with (first | (at_builtin; refine app_cells elemStmt rfl _ _ rfl w.heap.size _ (sl + 1) _ rfl hown5' A6 m6 c6 (flat ts) rfl hi6 Hfl.out (by unfold maxLen; omega) (by omega) hs6 ?_))
            intro v7 w7 hown7 hgrow hat
            have R7 := R6.own hown5' hgrow (Nat.le_refl _)
            replace hown7 := OwnS.app hown7
            obtain ⟨A7, m7, c7, rfl, hm7⟩ := ownsRow_slice hown7
            generalize hq : sl + 1 + m6 = q7 at *
            have hq20 : q7 ≤ 26 := by omega
            subst hm7
            have Hq := Lib.hid hq
            have hs7 := R7.size
            clear hown5' hi6 R6 hgrow hat hq
            go_wp2_with (first | (at_builtin; refine app_list (e' := 43) elemStmt rfl _ _ rfl w.heap.size _ q7 _ rfl (own_below hown7 (below_alloc _ _)) w7.heap.size 1 1 _ (0, 0) rfl (heap_alloc_new w7 _) rfl (oneCell_i64 [_, _, _, _, _, _]) (by omega) (by unfold maxLen; omega) (by omega) (by simp; omega) (w7.heap.size + 1) (by simp) ?_))
            intro g8 cap8 w8 hown8 hgrow hat hgl8
            have R8 := (R7.alloc _).own (own_below hown7 (below_alloc _ _)) hgrow (Nat.le_refl _)
            have Hown8 := Lib.hid (OwnS.one hown8)
            have HR8 := Lib.hid R8
            have HL : Hid ((((ss ++ [loopSt (1 + x)]) ++ ts) ++ [endSt]).length = q7 + 1) := by simp only [List.length_append, List.length_cons, List.length_nil, Hll.out, Hl6.out]; have := Hq.out; exact Lib.hid (by omega)
            clear hown8 hown7 hgrow hat hgl8 R7 R8
            go_wp2_with fail
            go_roundw
            case rel => exact ⟨k + 1, _, by omega, by go_num, by rw [HL.out]; have h := Hown8.out; simpa [loopSt, endSt] using h, hnx, HR8.out⟩
            case measure => simp [intOf]; omega
        · go_wp2_with fail
          refine (l08Stmt_any B g _ R1.cur).mono ?_
          rintro e w2 ⟨⟨op, d, a, b, c2, m2⟩, rfl, hps, R2'⟩
          have R2 := R1.next R2'.cur R2'.gr
          have hown1 := own_cur hown R2'.gr hgl
          have hnx := Lib.hid (hrd.out.one hps hM)
          have hs1 := R2.size
          clear hown R1 R2' hrd hps
          simp only [St.v]
          go_wp2_with (first | (at_builtin; refine app_list (e' := 43) elemStmt rfl _ _ rfl w.heap.size _ sl (intVals (flat ss)) rfl (own_below hown1 (below_alloc _ _)) w2.heap.size 1 1 _ (0, 0) rfl (heap_alloc_new w2 _) rfl (oneCell_i64 [_, _, _, _, _, _]) (by omega) (by unfold maxLen; omega) (by omega) (by simp; omega) (w2.heap.size + 1) (by simp) ?_))
          intro g2 cap w3 hown2 hgrow hat hgl2
          have R3 := (R2.alloc _).own (own_below hown1 (below_alloc _ _)) hgrow (Nat.le_refl _)
          have hown3 := OwnS.one hown2
          have Hown3 := Lib.hid hown3
          have HR3 := Lib.hid R3
          have HL : Hid ((ss ++ [(⟨op, d, a, b, c2, m2⟩ : St)]).length = sl + 1) := by rw [List.length_append, Hll.out]; exact Lib.hid rfl
          clear hown3 hown2 hown1 hgrow hat hgl2 R2 R3
          go_wp2_with fail
          go_roundw
          case rel => exact ⟨k + 1, _, by omega, by go_num, by rw [HL.out]; exact Hown3.out, hnx, HR3.out⟩
          case measure => simp [intOf]; omega
      · go_wp2_with fail
        refine (l08Stmt_any B g _ R1.cur).mono ?_
        rintro e w2 ⟨⟨op, d, a, b, c2, m2⟩, rfl, hps, R2'⟩
        have R2 := R1.next R2'.cur R2'.gr
        have hown1 := own_cur hown R2'.gr hgl
        have hnx := Lib.hid (hrd.out.one hps hM)
        have hs1 := R2.size
        clear hown R1 R2' hrd hps
        simp only [St.v]
        go_wp2_with (first | (at_builtin; refine app_list (e' := 43) elemStmt rfl _ _ rfl w.heap.size _ sl (intVals (flat ss)) rfl (own_below hown1 (below_alloc _ _)) w2.heap.size 1 1 _ (0, 0) rfl (heap_alloc_new w2 _) rfl (oneCell_i64 [_, _, _, _, _, _]) (by omega) (by unfold maxLen; omega) (by omega) (by simp; omega) (w2.heap.size + 1) (by simp) ?_))
        intro g2 cap w3 hown2 hgrow hat hgl2
        have R3 := (R2.alloc _).own (own_below hown1 (below_alloc _ _)) hgrow (Nat.le_refl _)
        have hown3 := OwnS.one hown2
        have Hown3 := Lib.hid hown3
        have HR3 := Lib.hid R3
        have HL : Hid ((ss ++ [(⟨op, d, a, b, c2, m2⟩ : St)]).length = sl + 1) := by rw [List.length_append, Hll.out]; exact Lib.hid rfl
        clear hown3 hown2 hown1 hgrow hat hgl2 R2 R3
        go_wp2_with fail
        go_roundw
        case rel => exact ⟨k + 1, _, by omega, by go_num, by rw [HL.out]; exact Hown3.out, hnx, HR3.out⟩
        case measure => simp [intOf]; omega
    · obtain rfl : k = n := by omega
      obtain ⟨A, m, c, rfl, hm⟩ := ownsRow_slice hown
      generalize hll : ss.length = sl at *
      subst hm
      have Hll := Lib.hid hll
      have Hrd := Lib.hid (show Rnd h M k ss from hrd.out)
      clear hll
      go_wp2_with fail
      go_ret
      exact ⟨A, sl, c, ss, rfl, Hll.out, Hrd.out, hown, R1⟩
theorem DrawnSS.mono {T : TypeId} {B g : Nat} {P Q : List St → Prop} {w : World} {e : Ending} {w' : World} (h : DrawnSS T B g P w e w') (f : ∀ ss, P ss → Q ss) : DrawnSS T B g Q w e w' := by
  obtain ⟨A, m, c, ss, he, hl, hp, ho, hr⟩ := h
  exact ⟨A, m, c, ss, he, hl, f ss hp, ho, hr⟩
theorem block2 (B g n : Nat) (hn : n ≤ 8) (w : World) (hc : Cur 89 B w g) :
    Calls Try.prog 50 #[.pointer (some ⟨g, 0, none⟩), .int .i64 (n : Int), .int .i64 2] w (DrawnSS 89 B g (Rnd 0 1 n) w) :=
  l08Block_at B g 2 0 1 n hn (by omega) (by omega) (by omega) (fun h => by omega) w hc
theorem block1 (B g n : Nat) (hn : n ≤ 8) (w : World) (hc : Cur 89 B w g) :
    Calls Try.prog 50 #[.pointer (some ⟨g, 0, none⟩), .int .i64 (n : Int), .int .i64 1] w (DrawnSS 89 B g (Rnd 1 4 n) w) :=
  l08Block_at B g 1 1 4 n hn (by omega) (by omega) (by omega) (fun _ => ⟨0, rfl, fun w x h0 h1 hc => by
    obtain ⟨m, rfl⟩ := Int.eq_ofNat_of_zero_le h0
    have h := block2 B g (1 + m) (by omega) w hc
    refine (show Calls Try.prog 50 #[.pointer (some ⟨g, 0, none⟩), .int .i64 (1 + (m : Int)), .int .i64 2] w _ from h).mono fun _ _ r => r.mono fun ss hs => ⟨hs.blk, by have := hs.l1; omega⟩⟩) w hc
theorem block0 (B g n : Nat) (hn : n ≤ 8) (w : World) (hc : Cur 89 B w g) :
    Calls Try.prog 50 #[.pointer (some ⟨g, 0, none⟩), .int .i64 (n : Int), .int .i64 0] w (DrawnSS 89 B g (Rnd 2 10 n) w) :=
  l08Block_at B g 0 2 10 n hn (by omega) (by omega) (by omega) (fun _ => ⟨1, rfl, fun w x h0 h1 hc => by
    obtain ⟨m, rfl⟩ := Int.eq_ofNat_of_zero_le h0
    have h := block1 B g (1 + m) (by omega) w hc
    refine (show Calls Try.prog 50 #[.pointer (some ⟨g, 0, none⟩), .int .i64 (1 + (m : Int)), .int .i64 1] w _ from h).mono fun _ _ r => r.mono fun ss hs => ⟨hs.blk, by have := hs.l1; omega⟩⟩) w hc
end Go.Proofs.Ytklmhkckhdmelaa
