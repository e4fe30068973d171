/- The draw of a program, a law's too. No condition. -/
import Derived.Test.YtklmhkckhdmelaaProg
import Derived.Test.YtklmhkckhdmelaaPgE
namespace Go.Proofs.Ytklmhkckhdmelaa
open Go Go.RowKit
theorem prog_of {n : Nat} {ss : List St} {x : Int} (h : Rnd 2 10 n ss) (hn : n ≤ 8) (hx : 0 ≤ x ∧ x < 4) :
    DrawnP ((([⟨2, 0, 0, 0, 0, 0⟩, ⟨2, 1, 1, 0, 0, 0⟩] ++ ss) ++ [⟨11, 0, x, 0, 0, 0⟩])) := by
  have o1 : (⟨2, 0, 0, 0, 0, 0⟩ : St).ok := by simp [St.ok, okI, isReg]
  have o2 : (⟨2, 1, 1, 0, 0, 0⟩ : St).ok := by simp [St.ok, okI, isReg]
  have o3 : (⟨11, 0, x, 0, 0, 0⟩ : St).ok := by simp [St.ok, okI, isReg]; omega
  have s1 : smallSt ⟨2, 0, 0, 0, 0, 0⟩ := ⟨o1, by simp, by simp, by simp, by simp, fun h => by simp at h⟩
  have s2 : smallSt ⟨2, 1, 1, 0, 0, 0⟩ := ⟨o2, by simp, by simp, by simp, by simp, fun h => by simp at h⟩
  have s3 : smallSt ⟨11, 0, x, 0, 0, 0⟩ := ⟨o3, by simp, by simp; omega, by simp, by simp, fun h => by simp at h⟩
  have hl := h.l2
  refine ⟨?_, ?_, ?_, ?_, ⟨ss ++ [⟨11, 0, x, 0, 0, 0⟩], rfl⟩, ⟨_, _, rfl⟩⟩
  · exact ((Bal.app (a := [⟨2, 0, 0, 0, 0, 0⟩]) (Bal.one o1 (by simp)) (Bal.one o2 (by simp))).app h.blk.bal).app (Bal.one o3 (by simp))
  · exact ((smallAll.app (a := [⟨2, 0, 0, 0, 0, 0⟩]) (smallAll.one s1) (smallAll.one s2)).app h.blk.small).app (smallAll.one s3)
  · simp
  · simp; omega
/-- A row that is laid whole, elements of any size. -/
theorem own_whole_n (w : World) (cur : Array Value) (e : TypeId) (base cap size : Nat) (hb : base ≤ w.heap.size) (hm : cap ≤ maxLen) (hs : cur.size = cap * size) :
    (w.alloc (.cells cur e)).ownsRow base e size (.slice (some ⟨w.heap.size, 0, none⟩) cap cap) cap cur.toList :=
  ⟨by simp [hs], .inr ⟨w.heap.size, cap, cur, rfl, hb, heap_alloc_new w _, Nat.le_refl _, hm, by omega, List.take_of_length_le (by simp [hs])⟩⟩
set_option maxRecDepth 100000 in
set_option maxHeartbeats 2000000 in
theorem l08Case_any (B g : Nat) (w : World) (hc : Cur 89 B w g) :
    Calls Try.prog 34 #[.pointer (some ⟨g, 0, none⟩)] w (DrawnSS 89 B g DrawnP w) := by
  have hgl := hc.lt
  have R1 := (RunD.start hc).alloc (.cells #[.int .i64 2, .int .i64 0, .int .i64 0, .int .i64 0, .int .i64 0, .int .i64 0, .int .i64 2, .int .i64 1, .int .i64 1, .int .i64 0, .int .i64 0, .int .i64 0] 43)
  have hown1 : OwnS w.heap.size (w.alloc (.cells #[.int .i64 2, .int .i64 0, .int .i64 0, .int .i64 0, .int .i64 0, .int .i64 0, .int .i64 2, .int .i64 1, .int .i64 1, .int .i64 0, .int .i64 0, .int .i64 0] 43)) (.slice (some ⟨w.heap.size, 0, none⟩) 2 2) 2 [⟨2, 0, 0, 0, 0, 0⟩, ⟨2, 1, 1, 0, 0, 0⟩] :=
    own_whole_n w #[.int .i64 2, .int .i64 0, .int .i64 0, .int .i64 0, .int .i64 0, .int .i64 0, .int .i64 2, .int .i64 1, .int .i64 1, .int .i64 0, .int .i64 0, .int .i64 0] 43 w.heap.size 2 6 (Nat.le_refl _) (by unfold maxLen; omega) rfl
  go_enter Try.func34, Try.ntmps34
  go_wp2_with fail
  refine (l01Below_any B g 9 _ R1.cur).mono ?_
  rintro e w2 ⟨x, rfl, ⟨_, hx⟩, hc1, hg1⟩
  replace hx := hx (by omega)
  have R2 := R1.next hc1 hg1
  have hown2 := own_cur hown1 hg1 hgl
  obtain ⟨hx0, hx1⟩ := hx
  obtain ⟨n, rfl⟩ := Int.eq_ofNat_of_zero_le hx0
  clear hc1 hg1 R1 hown1 hc
  go_wp2_with fail
  refine (block0 B g n (by omega) _ R2.cur).mono ?_
  rintro e w6 ⟨A6, m6, c6, ts, rfl, hl6, hb6, hown6, R6'⟩
  have R6 := R2.next R6'.cur R6'.gr
  have hown5' := own_cur hown2 R6'.gr hgl
  have hi6 := (OwnS.ints hown6).1
  have hm6 : m6 ≤ 26 := by have := hb6.l2; omega
  have hs6 := R6.size
  have hfl6 : (flat ts).length = m6 * 6 := by rw [flat_length, hl6]
  have Hfl := Lib.hid hfl6
  have Hl6 := Lib.hid hl6
  have Hb6 := Lib.hid hb6
  have hn8 : n ≤ 8 := by omega
  clear hown2 R2 R6' hb6 hown6 hfl6 hl6
  go_wp2_with (first | (at_builtin; refine app_cells elemStmt rfl _ _ rfl w.heap.size _ 2 _ rfl hown5' A6 m6 c6 (flat ts) rfl hi6 Hfl.out (by unfold maxLen; omega) (by omega) hs6 ?_))
  intro v7 w7 hown7 hgrow hat
  have R7 := R6.own hown5' hgrow (Nat.le_refl _)
  replace hown7 := OwnS.app hown7
  obtain ⟨A7, m7, c7, rfl, hm7⟩ := ownsRow_slice hown7
  generalize hq : 2 + m6 = q7 at *
  have hq20 : q7 ≤ 28 := by omega
  subst hm7
  have Hq := Lib.hid hq
  have hs7 := R7.size
  clear hown5' hi6 R6 hgrow hat hq
  go_wp2_with fail
  refine (l01Below_any B g 4 _ R7.cur).mono ?_
  rintro e w8 ⟨y, rfl, ⟨_, hy⟩, hc1, hg1⟩
  replace hy := hy (by omega)
  have R8 := R7.next hc1 hg1
  have hown8 := own_cur hown7 hg1 hgl
  have hs8 := R8.size
  have hp := Lib.hid (prog_of Hb6.out hn8 hy)
  clear hc1 hg1 R7 hown7 hy
  go_wp2_with (first | (at_builtin; refine app_list (e' := 43) elemStmt rfl _ _ rfl w.heap.size _ q7 _ rfl (own_below hown8 (below_alloc _ _)) w8.heap.size 1 1 _ (0, 0) rfl (heap_alloc_new w8 _) rfl (oneCell_i64 [_, _, _, _, _, _]) (by omega) (by unfold maxLen; omega) (by omega) (by simp; omega) (w8.heap.size + 1) (by simp) ?_))
  intro g8 cap8 w9 hown9 hgrow hat hgl8
  have R9 := (R8.alloc _).own (own_below hown8 (below_alloc _ _)) hgrow (Nat.le_refl _)
  replace hown9 := OwnS.one hown9
  clear hown8 R8 hgrow hat
  go_wp2_with fail
  go_ret
  exact ⟨_, _, _, _, rfl, by have h1 := Hl6.out; have h2 := Hq.out; simp; omega, hp.out, hown9, R9⟩
/-- A program that was drawn, in new memory. -/
def NewP (w : World) (e : Ending) (w' : World) : Prop :=
  ∃ (A : Option Addr) (m c : Nat) (ss : List St), e = .returned (.slice A m c) ∧ ss.length = m ∧ DrawnP ss ∧ OwnSt w.heap.size w'.heap.size w' (.slice A m c) m ss ∧ Below w.heap.size w w'
theorem DrawProgram_any (A : Option Addr) (n c : Nat) (w : World) (hb : Bytes w.heap.size w A n) (hn : n ≤ 2000000) :
    Calls Try.prog 9 #[.slice A n c] w (NewP w) := by
  go_enter Try.func9, Try.ntmps9
  go_wp2_with fail
  refine (l01New_any A n c w hb hn).mono ?_
  rintro e w1 ⟨g, rfl, hc1, hb1⟩
  have hw1 := hb1.size
  go_wp2_with fail
  refine (l08Case_any _ g w1 hc1).mono ?_
  rintro e w2 ⟨A2, m, c2, ss, rfl, hl, hp, ho, R⟩
  have hbf := Lib.hid (below_cur hb1 hc1 R.gr)
  have Hl := Lib.hid hl
  clear hl
  go_wp2_with fail
  go_ret
  exact ⟨A2, m, c2, ss, rfl, Hl.out, hp, (OwnSt.of_own (own_mono ho hw1)), hbf.out⟩
end Go.Proofs.Ytklmhkckhdmelaa
