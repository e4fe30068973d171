/- The draws of programs: a block with loops inside, a program. No condition. And what goes with it. -/
import Derived.Test.YtjfmcdfgccdmpaaGreatProg
import Derived.Test.YtjfmcdfgccdmpaaGreatStD
import Derived.Test.YtjfmcdfgccdmpaaGreatB2
import Derived.Test.YtjfmcdfgccdmpaaGreatAppC
namespace Go.Proofs.YtjfmcdfgccdmpaaGreat
open Go Go.RowKit
theorem OwnS.app {base n m : Nat} {w : World} {v : Value} {ss ts : List St} (h : w.ownsRow base 49 6 v (n + m) (intVals (flat ss) ++ intVals (flat ts))) : OwnS base w v (n + m) (ss ++ ts) := by
  unfold OwnS
  rw [flat_append]
  simpa [intVals] using h
theorem OwnS.one {base n : Nat} {w : World} {v : Value} {ss : List St} {op d a b c m : Int} (h : w.ownsRow base 49 6 v (n + 1) (intVals (flat ss) ++ (#[Value.int .i64 op, .int .i64 d, .int .i64 a, .int .i64 b, .int .i64 c, .int .i64 m] : Array Value).toList)) : OwnS base w v (n + 1) (ss ++ [⟨op, d, a, b, c, m⟩]) :=
  OwnS.app (ts := [⟨op, d, a, b, c, m⟩]) h
theorem OwnS.len {base n : Nat} {w : World} {v : Value} {ss : List St} (h : OwnS base w v n ss) : ss.length = n := by have := h.1; rw [intVals_length, flat_length] at this; omega
/-- A list of statements that was drawn. -/
def DrawnSS (T : TypeId) (B g : Nat) (P : List St → Prop) (w : World) (e : Ending) (w' : World) : Prop :=
  ∃ (A : Option Addr) (m c : Nat) (ss : List St), e = .returned (.slice A m c) ∧ ss.length = m ∧ P ss ∧ OwnS w.heap.size w' (.slice A m c) m ss ∧ RunD T B g w w'
/-- What the rounds of a block have laid so far. -/
structure Rnd (h M k : Nat) (ss : List St) : Prop where
  blk : Blk8 h ss
  l1 : ss.length ≤ M * k
  l2 : ss.length ≤ k + 18
theorem Rnd.nil (h M : Nat) : Rnd h M 0 [] := ⟨Blk8.nil h, by simp, by simp⟩
theorem Rnd.one {h M k : Nat} {ss : List St} {s : St} (r : Rnd h M k ss) (hs : plainSt s) (hM : 1 ≤ M) : Rnd h M (k + 1) (ss ++ [s]) := by
  obtain ⟨ho, hl, hd, ha, hb, hc⟩ := hs
  refine ⟨r.blk.app ⟨Bal.one ho hl, smallAll.one ⟨ho, hd, ha, hb, hc, fun e => by omega⟩⟩, ?_, ?_⟩
  · have := r.l1
    rw [Nat.mul_succ, List.length_append]
    simp only [List.length_cons, List.length_nil]
    omega
  · have := r.l2
    rw [List.length_append]
    simp only [List.length_cons, List.length_nil]
    omega
theorem Rnd.loop {h M k : Nat} {ss ts : List St} {n : Int} (r : Rnd (h + 1) M k ss) (hs : Blk8 h ts) (hn : 0 ≤ n ∧ n < 3) (hl : ss.length < 12) (hM : ts.length + 2 ≤ M) (hM2 : M ≤ 10) :
    Rnd (h + 1) M (k + 1) (((ss ++ [loopSt (1 + n)]) ++ ts) ++ [endSt]) := by
  refine ⟨r.blk.loop hs hn, ?_, ?_⟩
  · have := r.l1
    rw [Nat.mul_succ]
    simp only [List.length_append, List.length_cons, List.length_nil]
    omega
  · have h1 := r.l1
    have h2 := r.l2
    simp only [List.length_append, List.length_cons, List.length_nil]
    have hk : k = 0 ∨ k = 1 ∨ 2 ≤ k := by omega
    rcases hk with rfl | rfl | hk <;> omega
end Go.Proofs.YtjfmcdfgccdmpaaGreat

namespace Go.Proofs.YtjfmcdfgccdmpaaGreat
open Go Go.RowKit
theorem len_cast {ss : List St} {n : Nat} (h : ss.length = n) : ss.length = n := h
set_option maxRecDepth 100000 in
set_option maxHeartbeats 2000000 in
theorem l08Block_at (B g dep h M n : Nat) (hn : n ≤ 8) (hd : dep ≤ 2) (hM : 1 ≤ M) (hM2 : M ≤ 10)
    (hrec : dep < 2 → ∃ h', h = h' + 1 ∧ ∀ (w : World) (x : Int), 0 ≤ x → x < 2 → Cur 77 B w g →
      Calls Tryz.prog 31 #[.pointer (some ⟨g, 0, none⟩), .int .i64 (1 + x), .int .i64 ((dep : Int) + 1)] w (DrawnSS 77 B g (fun ts => Blk8 h' ts ∧ ts.length + 2 ≤ M) w))
    (w : World) (hc : Cur 77 B w g) :
    Calls Tryz.prog 31 #[.pointer (some ⟨g, 0, none⟩), .int .i64 (n : Int), .int .i64 (dep : Int)] w (DrawnSS 77 B g (Rnd h M n) w) := by
  have hgl := hc.lt
  have R := RunD.start hc
  have Hrec := Lib.hid hrec
  clear hrec
  go_enter Tryz.func31, Tryz.ntmps31
  go_wp2_with fail
  go_loopw [7, 8] (fun v i wr => ∃ (k : Nat) (ss : List St), k ≤ n ∧ i = .int .i64 k ∧ OwnS w.heap.size wr v ss.length ss ∧ Hid (Rnd h M k ss) ∧ RunD 77 B g w wr) (fun _ i _ => n - (intOf i).toNat)
  case atStart => exact ⟨0, [], Nat.zero_le _, rfl, World.ownsRow_made (e := 49) (size := 6) (base := w.heap.size) w #[] 0 (Nat.le_refl _) (by unfold maxLen; omega) rfl, Lib.hid (Rnd.nil h M), R.alloc _⟩
  case round =>
    obtain ⟨k, ss, hk, rfl, hown, hrd, R1⟩ := hrel
    clear R hc
    by_cases hlt : k < n
    · have hl18 := hrd.out.l2
      have k0 : (0 : Int) ≤ k := by omega
      have k1 : (k : Int) < n := by omega
      obtain ⟨A, m, c, rfl, hm⟩ := ownsRow_slice hown
      generalize hll : ss.length = sl at *
      subst hm
      have Hll := Lib.hid hll
      clear hll
      by_cases hd2 : dep < 2
      · obtain ⟨h', rfl, hcall⟩ := Hrec.out hd2
        by_cases h12 : sl < 12
        · go_wp2_with fail
          refine (l01Once_any B g 8 _ R1.cur).mono ?_
          rintro e w2 ⟨bb, rfl, hc1, hg1⟩
          have R2 := R1.next hc1 hg1
          have hown2 := own_cur hown hg1 hgl
          clear hc1 hg1 hown R1
          cases bb
          · go_wp2_with fail
            refine (l08Stmt_any B g _ R2.cur).mono ?_
            rintro e w9 ⟨⟨op, d, a, b, c2, m2⟩, rfl, hps, R9'⟩
            have R9 := R2.next R9'.cur R9'.gr
            have hown1 := own_cur hown2 R9'.gr hgl
            have hnx := Lib.hid (hrd.out.one hps hM)
            have hs1 := R9.size
            clear hown2 R2 R9' hrd hps
            simp only [St.v]
            go_wp2_with (first | (at_builtin; refine app_list (e' := 49) elemStmt rfl _ _ rfl w.heap.size _ sl (intVals (flat ss)) rfl (own_below hown1 (below_alloc _ _)) w9.heap.size 1 1 _ (0, 0) rfl (heap_alloc_new w9 _) rfl (oneCell_i64 [_, _, _, _, _, _]) (by omega) (by unfold maxLen; omega) (by omega) (by simp; omega) (w9.heap.size + 1) (by simp) ?_))
            intro g2 cap w10 hownq hgrow hat hgl2
            have R3 := (R9.alloc _).own (own_below hown1 (below_alloc _ _)) hgrow (Nat.le_refl _)
            have hown3 := OwnS.one hownq
            have Hown3 := Lib.hid hown3
            have HR3 := Lib.hid R3
            have HL : Hid ((ss ++ [(⟨op, d, a, b, c2, m2⟩ : St)]).length = sl + 1) := by rw [List.length_append, Hll.out]; exact Lib.hid rfl
            clear hown3 hownq hown1 hgrow hat hgl2 R9 R3
            go_wp2_with fail
            go_roundw
            case rel => exact ⟨k + 1, _, by omega, by go_num, by rw [HL.out]; exact Hown3.out, hnx, HR3.out⟩
            case measure => simp [intOf]; omega
          · go_wp2_with fail
            refine (l01Below_any B g 3 _ R2.cur).mono ?_
            rintro e w3 ⟨x, rfl, ⟨_, hx⟩, hc1, hg1⟩
            replace hx := hx (by omega)
            have R3 := R2.next hc1 hg1
            have hown3 := own_cur hown2 hg1 hgl
            obtain ⟨hx0, hx1⟩ := hx
            have hs1 := R3.size
            clear hc1 hg1 R2 hown2
            go_wp2_with (first | (at_builtin; refine app_list (e' := 49) elemStmt rfl _ _ rfl w.heap.size _ sl (intVals (flat ss)) rfl (own_below hown3 (below_alloc _ _)) w3.heap.size 1 1 _ (0, 0) rfl (heap_alloc_new w3 _) rfl (oneCell_i64 [_, _, _, _, _, _]) (by omega) (by unfold maxLen; omega) (by omega) (by simp; omega) (w3.heap.size + 1) (by simp) ?_))
            intro g2 cap w4 hown4 hgrow hat hgl2
            have R4 := (R3.alloc _).own (own_below hown3 (below_alloc _ _)) hgrow (Nat.le_refl _)
            replace hown4 := OwnS.one hown4
            clear hown3 R3 hgrow hat hgl2
            go_wp2_with fail
            refine (l01Below_any B g 2 _ R4.cur).mono ?_
            rintro e w5 ⟨y, rfl, ⟨_, hy⟩, hc1, hg1⟩
            replace hy := hy (by omega)
            have R5 := R4.next hc1 hg1
            have hown5 := own_cur hown4 hg1 hgl
            obtain ⟨hy0, hy1⟩ := hy
            clear hc1 hg1 R4 hown4
            go_wp2_with fail
            refine (hcall _ y hy0 hy1 R5.cur).mono ?_
            rintro e w6 ⟨A6, m6, c6, ts, rfl, hl6, ⟨hb6, hM6⟩, hown6, R6'⟩
            have R6 := R5.next R6'.cur R6'.gr
            have hown5' := own_cur hown5 R6'.gr hgl
            have hi6 := (OwnS.ints hown6).1
            have hm6 : m6 ≤ 8 := by omega
            have hs6 := R6.size
            have hfl6 : (flat ts).length = m6 * 6 := by rw [flat_length, hl6]
            have Hfl := Lib.hid hfl6
            have hnx := Lib.hid (hrd.out.loop hb6 ⟨hx0, hx1⟩ (by rw [Hll.out]; exact h12) hM6 hM2)
            have Hl6 := Lib.hid hl6
            clear hown5 R5 R6' hrd hb6 hown6 hfl6 hl6
            go_wp2_with (first | (at_builtin; refine app_cells elemStmt rfl _ _ rfl w.heap.size _ (sl + 1) _ rfl hown5' A6 m6 c6 (flat ts) rfl hi6 Hfl.out (by unfold maxLen; omega) (by omega) hs6 ?_))
            intro v7 w7 hown7 hgrow hat
            have R7 := R6.own hown5' hgrow (Nat.le_refl _)
            replace hown7 := OwnS.app hown7
            obtain ⟨A7, m7, c7, rfl, hm7⟩ := ownsRow_slice hown7
            generalize hq : sl + 1 + m6 = q7 at *
            have hq20 : q7 ≤ 26 := by omega
            subst hm7
            have Hq := Lib.hid hq
            have hs7 := R7.size
            clear hown5' hi6 R6 hgrow hat hq
            go_wp2_with (first | (at_builtin; refine app_list (e' := 49) elemStmt rfl _ _ rfl w.heap.size _ q7 _ rfl (own_below hown7 (below_alloc _ _)) w7.heap.size 1 1 _ (0, 0) rfl (heap_alloc_new w7 _) rfl (oneCell_i64 [_, _, _, _, _, _]) (by omega) (by unfold maxLen; omega) (by omega) (by simp; omega) (w7.heap.size + 1) (by simp) ?_))
            intro g8 cap8 w8 hown8 hgrow hat hgl8
            have R8 := (R7.alloc _).own (own_below hown7 (below_alloc _ _)) hgrow (Nat.le_refl _)
            have Hown8 := Lib.hid (OwnS.one hown8)
            have HR8 := Lib.hid R8
            have HL : Hid ((((ss ++ [loopSt (1 + x)]) ++ ts) ++ [endSt]).length = q7 + 1) := by simp only [List.length_append, List.length_cons, List.length_nil, Hll.out, Hl6.out]; have := Hq.out; exact Lib.hid (by omega)
            clear hown8 hown7 hgrow hat hgl8 R7 R8
            go_wp2_with fail
            go_roundw
            case rel => exact ⟨k + 1, _, by omega, by go_num, by rw [HL.out]; have h := Hown8.out; simpa [loopSt, endSt] using h, hnx, HR8.out⟩
            case measure => simp [intOf]; omega
        · go_wp2_with fail
          refine (l08Stmt_any B g _ R1.cur).mono ?_
          rintro e w2 ⟨⟨op, d, a, b, c2, m2⟩, rfl, hps, R2'⟩
          have R2 := R1.next R2'.cur R2'.gr
          have hown1 := own_cur hown R2'.gr hgl
          have hnx := Lib.hid (hrd.out.one hps hM)
          have hs1 := R2.size
          clear hown R1 R2' hrd hps
          simp only [St.v]
          go_wp2_with (first | (at_builtin; refine app_list (e' := 49) elemStmt rfl _ _ rfl w.heap.size _ sl (intVals (flat ss)) rfl (own_below hown1 (below_alloc _ _)) w2.heap.size 1 1 _ (0, 0) rfl (heap_alloc_new w2 _) rfl (oneCell_i64 [_, _, _, _, _, _]) (by omega) (by unfold maxLen; omega) (by omega) (by simp; omega) (w2.heap.size + 1) (by simp) ?_))
          intro g2 cap w3 hown2 hgrow hat hgl2
          have R3 := (R2.alloc _).own (own_below hown1 (below_alloc _ _)) hgrow (Nat.le_refl _)
          have hown3 := OwnS.one hown2
          have Hown3 := Lib.hid hown3
          have HR3 := Lib.hid R3
          have HL : Hid ((ss ++ [(⟨op, d, a, b, c2, m2⟩ : St)]).length = sl + 1) := by rw [List.length_append, Hll.out]; exact Lib.hid rfl
          clear hown3 hown2 hown1 hgrow hat hgl2 R2 R3
          go_wp2_with fail
          go_roundw
          case rel => exact ⟨k + 1, _, by omega, by go_num, by rw [HL.out]; exact Hown3.out, hnx, HR3.out⟩
          case measure => simp [intOf]; omega
      · go_wp2_with fail
        refine (l08Stmt_any B g _ R1.cur).mono ?_
        rintro e w2 ⟨⟨op, d, a, b, c2, m2⟩, rfl, hps, R2'⟩
        have R2 := R1.next R2'.cur R2'.gr
        have hown1 := own_cur hown R2'.gr hgl
        have hnx := Lib.hid (hrd.out.one hps hM)
        have hs1 := R2.size
        clear hown R1 R2' hrd hps
        simp only [St.v]
        go_wp2_with (first | (at_builtin; refine app_list (e' := 49) elemStmt rfl _ _ rfl w.heap.size _ sl (intVals (flat ss)) rfl (own_below hown1 (below_alloc _ _)) w2.heap.size 1 1 _ (0, 0) rfl (heap_alloc_new w2 _) rfl (oneCell_i64 [_, _, _, _, _, _]) (by omega) (by unfold maxLen; omega) (by omega) (by simp; omega) (w2.heap.size + 1) (by simp) ?_))
        intro g2 cap w3 hown2 hgrow hat hgl2
        have R3 := (R2.alloc _).own (own_below hown1 (below_alloc _ _)) hgrow (Nat.le_refl _)
        have hown3 := OwnS.one hown2
        have Hown3 := Lib.hid hown3
        have HR3 := Lib.hid R3
        have HL : Hid ((ss ++ [(⟨op, d, a, b, c2, m2⟩ : St)]).length = sl + 1) := by rw [List.length_append, Hll.out]; exact Lib.hid rfl
        clear hown3 hown2 hown1 hgrow hat hgl2 R2 R3
        go_wp2_with fail
        go_roundw
        case rel => exact ⟨k + 1, _, by omega, by go_num, by rw [HL.out]; exact Hown3.out, hnx, HR3.out⟩
        case measure => simp [intOf]; omega
    · obtain rfl : k = n := by omega
      obtain ⟨A, m, c, rfl, hm⟩ := ownsRow_slice hown
      generalize hll : ss.length = sl at *
      subst hm
      have Hll := Lib.hid hll
      have Hrd := Lib.hid (show Rnd h M k ss from hrd.out)
      clear hll
      go_wp2_with fail
      go_ret
      exact ⟨A, sl, c, ss, rfl, Hll.out, Hrd.out, hown, R1⟩
theorem DrawnSS.mono {T : TypeId} {B g : Nat} {P Q : List St → Prop} {w : World} {e : Ending} {w' : World} (h : DrawnSS T B g P w e w') (f : ∀ ss, P ss → Q ss) : DrawnSS T B g Q w e w' := by
  obtain ⟨A, m, c, ss, he, hl, hp, ho, hr⟩ := h
  exact ⟨A, m, c, ss, he, hl, f ss hp, ho, hr⟩
theorem block2 (B g n : Nat) (hn : n ≤ 8) (w : World) (hc : Cur 77 B w g) :
    Calls Tryz.prog 31 #[.pointer (some ⟨g, 0, none⟩), .int .i64 (n : Int), .int .i64 2] w (DrawnSS 77 B g (Rnd 0 1 n) w) :=
  l08Block_at B g 2 0 1 n hn (by omega) (by omega) (by omega) (fun h => by omega) w hc
theorem block1 (B g n : Nat) (hn : n ≤ 8) (w : World) (hc : Cur 77 B w g) :
    Calls Tryz.prog 31 #[.pointer (some ⟨g, 0, none⟩), .int .i64 (n : Int), .int .i64 1] w (DrawnSS 77 B g (Rnd 1 4 n) w) :=
  l08Block_at B g 1 1 4 n hn (by omega) (by omega) (by omega) (fun _ => ⟨0, rfl, fun w x h0 h1 hc => by
    obtain ⟨m, rfl⟩ := Int.eq_ofNat_of_zero_le h0
    have h := block2 B g (1 + m) (by omega) w hc
    refine (show Calls Tryz.prog 31 #[.pointer (some ⟨g, 0, none⟩), .int .i64 (1 + (m : Int)), .int .i64 2] w _ from h).mono fun _ _ r => r.mono fun ss hs => ⟨hs.blk, by have := hs.l1; omega⟩⟩) w hc
theorem block0 (B g n : Nat) (hn : n ≤ 8) (w : World) (hc : Cur 77 B w g) :
    Calls Tryz.prog 31 #[.pointer (some ⟨g, 0, none⟩), .int .i64 (n : Int), .int .i64 0] w (DrawnSS 77 B g (Rnd 2 10 n) w) :=
  l08Block_at B g 0 2 10 n hn (by omega) (by omega) (by omega) (fun _ => ⟨1, rfl, fun w x h0 h1 hc => by
    obtain ⟨m, rfl⟩ := Int.eq_ofNat_of_zero_le h0
    have h := block1 B g (1 + m) (by omega) w hc
    refine (show Calls Tryz.prog 31 #[.pointer (some ⟨g, 0, none⟩), .int .i64 (1 + (m : Int)), .int .i64 1] w _ from h).mono fun _ _ r => r.mono fun ss hs => ⟨hs.blk, by have := hs.l1; omega⟩⟩) w hc
end Go.Proofs.YtjfmcdfgccdmpaaGreat

namespace Go.Proofs.YtjfmcdfgccdmpaaGreat
open Go Go.RowKit
theorem prog_of {n : Nat} {ss : List St} {x : Int} (h : Rnd 2 10 n ss) (hn : n ≤ 8) (hx : 0 ≤ x ∧ x < 4) :
    DrawnP ((([⟨2, 0, 0, 0, 0, 0⟩, ⟨2, 1, 1, 0, 0, 0⟩] ++ ss) ++ [⟨11, 0, x, 0, 0, 0⟩])) := by
  have o1 : (⟨2, 0, 0, 0, 0, 0⟩ : St).ok := by simp [St.ok, okI, isReg]
  have o2 : (⟨2, 1, 1, 0, 0, 0⟩ : St).ok := by simp [St.ok, okI, isReg]
  have o3 : (⟨11, 0, x, 0, 0, 0⟩ : St).ok := by simp [St.ok, okI, isReg]; omega
  have s1 : smallSt ⟨2, 0, 0, 0, 0, 0⟩ := ⟨o1, by simp, by simp, by simp, by simp, fun h => by simp at h⟩
  have s2 : smallSt ⟨2, 1, 1, 0, 0, 0⟩ := ⟨o2, by simp, by simp, by simp, by simp, fun h => by simp at h⟩
  have s3 : smallSt ⟨11, 0, x, 0, 0, 0⟩ := ⟨o3, by simp, by simp; omega, by simp, by simp, fun h => by simp at h⟩
  have hl := h.l2
  refine ⟨?_, ?_, ?_, ?_, ⟨ss ++ [⟨11, 0, x, 0, 0, 0⟩], rfl⟩, ⟨_, _, rfl⟩⟩
  · exact ((Bal.app (a := [⟨2, 0, 0, 0, 0, 0⟩]) (Bal.one o1 (by simp)) (Bal.one o2 (by simp))).app h.blk.bal).app (Bal.one o3 (by simp))
  · exact ((smallAll.app (a := [⟨2, 0, 0, 0, 0, 0⟩]) (smallAll.one s1) (smallAll.one s2)).app h.blk.small).app (smallAll.one s3)
  · simp
  · simp; omega
/-- A row that is laid whole, elements of any size. -/
theorem own_whole_n (w : World) (cur : Array Value) (e : TypeId) (base cap size : Nat) (hb : base ≤ w.heap.size) (hm : cap ≤ maxLen) (hs : cur.size = cap * size) :
    (w.alloc (.cells cur e)).ownsRow base e size (.slice (some ⟨w.heap.size, 0, none⟩) cap cap) cap cur.toList :=
  ⟨by simp [hs], .inr ⟨w.heap.size, cap, cur, rfl, hb, heap_alloc_new w _, Nat.le_refl _, hm, by omega, List.take_of_length_le (by simp [hs])⟩⟩
set_option maxRecDepth 100000 in
set_option maxHeartbeats 2000000 in
theorem l08Case_any (B g : Nat) (w : World) (hc : Cur 77 B w g) :
    Calls Tryz.prog 14 #[.pointer (some ⟨g, 0, none⟩)] w (DrawnSS 77 B g DrawnP w) := by
  have hgl := hc.lt
  have R1 := (RunD.start hc).alloc (.cells #[.int .i64 2, .int .i64 0, .int .i64 0, .int .i64 0, .int .i64 0, .int .i64 0, .int .i64 2, .int .i64 1, .int .i64 1, .int .i64 0, .int .i64 0, .int .i64 0] 49)
  have hown1 : OwnS w.heap.size (w.alloc (.cells #[.int .i64 2, .int .i64 0, .int .i64 0, .int .i64 0, .int .i64 0, .int .i64 0, .int .i64 2, .int .i64 1, .int .i64 1, .int .i64 0, .int .i64 0, .int .i64 0] 49)) (.slice (some ⟨w.heap.size, 0, none⟩) 2 2) 2 [⟨2, 0, 0, 0, 0, 0⟩, ⟨2, 1, 1, 0, 0, 0⟩] :=
    own_whole_n w #[.int .i64 2, .int .i64 0, .int .i64 0, .int .i64 0, .int .i64 0, .int .i64 0, .int .i64 2, .int .i64 1, .int .i64 1, .int .i64 0, .int .i64 0, .int .i64 0] 49 w.heap.size 2 6 (Nat.le_refl _) (by unfold maxLen; omega) rfl
  go_enter Tryz.func14, Tryz.ntmps14
  go_wp2_with fail
  refine (l01Below_any B g 9 _ R1.cur).mono ?_
  rintro e w2 ⟨x, rfl, ⟨_, hx⟩, hc1, hg1⟩
  replace hx := hx (by omega)
  have R2 := R1.next hc1 hg1
  have hown2 := own_cur hown1 hg1 hgl
  obtain ⟨hx0, hx1⟩ := hx
  obtain ⟨n, rfl⟩ := Int.eq_ofNat_of_zero_le hx0
  clear hc1 hg1 R1 hown1 hc
  go_wp2_with fail
  refine (block0 B g n (by omega) _ R2.cur).mono ?_
  rintro e w6 ⟨A6, m6, c6, ts, rfl, hl6, hb6, hown6, R6'⟩
  have R6 := R2.next R6'.cur R6'.gr
  have hown5' := own_cur hown2 R6'.gr hgl
  have hi6 := (OwnS.ints hown6).1
  have hm6 : m6 ≤ 26 := by have := hb6.l2; omega
  have hs6 := R6.size
  have hfl6 : (flat ts).length = m6 * 6 := by rw [flat_length, hl6]
  have Hfl := Lib.hid hfl6
  have Hl6 := Lib.hid hl6
  have Hb6 := Lib.hid hb6
  have hn8 : n ≤ 8 := by omega
  clear hown2 R2 R6' hb6 hown6 hfl6 hl6
  go_wp2_with (first | (at_builtin; refine app_cells elemStmt rfl _ _ rfl w.heap.size _ 2 _ rfl hown5' A6 m6 c6 (flat ts) rfl hi6 Hfl.out (by unfold maxLen; omega) (by omega) hs6 ?_))
  intro v7 w7 hown7 hgrow hat
  have R7 := R6.own hown5' hgrow (Nat.le_refl _)
  replace hown7 := OwnS.app hown7
  obtain ⟨A7, m7, c7, rfl, hm7⟩ := ownsRow_slice hown7
  generalize hq : 2 + m6 = q7 at *
  have hq20 : q7 ≤ 28 := by omega
  subst hm7
  have Hq := Lib.hid hq
  have hs7 := R7.size
  clear hown5' hi6 R6 hgrow hat hq
  go_wp2_with fail
  refine (l01Below_any B g 4 _ R7.cur).mono ?_
  rintro e w8 ⟨y, rfl, ⟨_, hy⟩, hc1, hg1⟩
  replace hy := hy (by omega)
  have R8 := R7.next hc1 hg1
  have hown8 := own_cur hown7 hg1 hgl
  have hs8 := R8.size
  have hp := Lib.hid (prog_of Hb6.out hn8 hy)
  clear hc1 hg1 R7 hown7 hy
  go_wp2_with (first | (at_builtin; refine app_list (e' := 49) elemStmt rfl _ _ rfl w.heap.size _ q7 _ rfl (own_below hown8 (below_alloc _ _)) w8.heap.size 1 1 _ (0, 0) rfl (heap_alloc_new w8 _) rfl (oneCell_i64 [_, _, _, _, _, _]) (by omega) (by unfold maxLen; omega) (by omega) (by simp; omega) (w8.heap.size + 1) (by simp) ?_))
  intro g8 cap8 w9 hown9 hgrow hat hgl8
  have R9 := (R8.alloc _).own (own_below hown8 (below_alloc _ _)) hgrow (Nat.le_refl _)
  replace hown9 := OwnS.one hown9
  clear hown8 R8 hgrow hat
  go_wp2_with fail
  go_ret
  exact ⟨_, _, _, _, rfl, by have h1 := Hl6.out; have h2 := Hq.out; simp; omega, hp.out, hown9, R9⟩
/-- A program that was drawn, in new memory. -/
def NewP (w : World) (e : Ending) (w' : World) : Prop :=
  ∃ (A : Option Addr) (m c : Nat) (ss : List St), e = .returned (.slice A m c) ∧ ss.length = m ∧ DrawnP ss ∧ OwnSt w.heap.size w'.heap.size w' (.slice A m c) m ss ∧ Below w.heap.size w w'
end Go.Proofs.YtjfmcdfgccdmpaaGreat
