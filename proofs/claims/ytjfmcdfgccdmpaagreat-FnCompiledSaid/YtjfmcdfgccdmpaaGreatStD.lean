/- The draws of statements and of programs: what is drawn is valid. No condition. -/
import Derived.Test.YtjfmcdfgccdmpaaGreatProg
import Derived.Test.YtjfmcdfgccdmpaaGreatB1
import Derived.Test.YtjfmcdfgccdmpaaGreatStmtG
import Derived.Test.YtjfmcdfgccdmpaaGreatB2
namespace Go.Proofs.YtjfmcdfgccdmpaaGreat
open Go Go.RowKit
/-- A drawn statement: valid, no loop and no end, its registers below 4. -/
def plainSt (s : St) : Prop := s.ok ∧ s.op ≤ 11 ∧ (0 ≤ s.d ∧ s.d ≤ 3) ∧ (0 ≤ s.a ∧ s.a ≤ 3) ∧ (0 ≤ s.b ∧ s.b ≤ 3) ∧ (0 ≤ s.c ∧ s.c ≤ 3)
def DrawnSt (T : TypeId) (B g : Nat) (P : St → Prop) (w : World) (e : Ending) (w' : World) : Prop :=
  ∃ s : St, e = .returned s.v ∧ P s ∧ RunD T B g w w'
theorem plain_con {d n : Int} {a b c : Int} (hd : 0 ≤ d ∧ d < 4) (hn : 0 ≤ n ∧ n < 16) : plainSt (plainI 1 d a b c n) := by
  simp [plainI, tyOf, Ty.back, plainSt, St.ok, okI, isReg]; omega
theorem plain_inp {d n : Int} {a b c : Int} (hd : 0 ≤ d ∧ d < 4) (ha : 0 ≤ a ∧ a < 3) (hn : 0 ≤ n ∧ n < 2) : plainSt (plainI 2 d a b c n) := by
  simp [plainI, tyOf, Ty.back, plainSt, St.ok, okI, isReg]; omega
theorem plain_mux {d n : Int} {a b c : Int} (hd : 0 ≤ d ∧ d < 4) (ha : 0 ≤ a ∧ a < 4) (hb : 0 ≤ b ∧ b < 4) (hc : 0 ≤ c ∧ c < 4) : plainSt (plainI 10 d a b c n) := by
  simp [plainI, tyOf, Ty.back, plainSt, St.ok, okI, isReg]; omega
theorem plain_out {a : Int} {d b c n : Int} (ha : 0 ≤ a ∧ a < 4) : plainSt (plainI 11 d a b c n) := by
  simp [plainI, tyOf, Ty.back, plainSt, St.ok, okI, isReg]; omega
theorem plain_bin {op d a b : Int} {c n : Int} (ho : 0 ≤ op ∧ op < 7) (hd : 0 ≤ d ∧ d < 4) (ha : 0 ≤ a ∧ a < 4) (hb : 0 ≤ b ∧ b < 4) : plainSt (plainI (3 + op) d a b c n) := by
  have h1 : ¬ (3 + op = 1) := by omega
  have h2 : ¬ (3 + op = 2) := by omega
  have h3 : 3 ≤ 3 + op ∧ 3 + op ≤ 9 := by omega
  simp only [plainI, tyOf, if_neg h1, if_neg h2, if_pos h3, Ty.back]
  exact ⟨.inr (.inr (.inl ⟨h3.1, h3.2, ⟨by show 0 ≤ d; omega, by show d ≤ 7; omega⟩, ⟨by show 0 ≤ a; omega, by show a ≤ 7; omega⟩, ⟨by show 0 ≤ b; omega, by show b ≤ 7; omega⟩, rfl, rfl⟩)), by show 3 + op ≤ 11; omega, by show 0 ≤ d ∧ d ≤ 3; omega, by show 0 ≤ a ∧ a ≤ 3; omega, by show 0 ≤ b ∧ b ≤ 3; omega, by show (0 : Int) ≤ 0 ∧ (0 : Int) ≤ 3; omega⟩
theorem St.v_mk (s : St) : ∃ o d a b c n : Int, s = ⟨o, d, a, b, c, n⟩ := ⟨s.op, s.d, s.a, s.b, s.c, s.n, rfl⟩
set_option maxRecDepth 100000 in
set_option maxHeartbeats 2000000 in
theorem l08Stmt_any (B g : Nat) (w : World) (hc : Cur 77 B w g) :
    Calls Tryz.prog 54 #[.pointer (some ⟨g, 0, none⟩)] w (DrawnSt 77 B g plainSt w) := by
  have hgl := hc.lt
  have R := (RunD.start hc).alloc (.cells #[.int .i64 0, .int .i64 0, .int .i64 0, .int .i64 0, .int .i64 0, .int .i64 0] 49)
  have hr := heap_alloc_new w (.cells #[.int .i64 0, .int .i64 0, .int .i64 0, .int .i64 0, .int .i64 0, .int .i64 0] 49)
  go_enter Tryz.func54, Tryz.ntmps54
  go_wp2_with fail
  refine (l01Below_any B g 4 _ R.cur).mono ?_
  rintro e w1 ⟨d, rfl, ⟨_, hd⟩, hc1, hg1⟩
  replace hd := hd (by omega)
  replace R := R.next hc1 hg1
  replace hr := heap_draw hr hg1 (by omega)
  clear hc1 hg1
  go_wp2_with fail
  refine (l01Below_any B g 4 _ R.cur).mono ?_
  rintro e w2 ⟨a, rfl, ⟨_, ha⟩, hc1, hg1⟩
  replace ha := ha (by omega)
  replace R := R.next hc1 hg1
  replace hr := heap_draw hr hg1 (by omega)
  clear hc1 hg1
  go_wp2_with fail
  refine (l01Below_any B g 4 _ R.cur).mono ?_
  rintro e w3 ⟨b, rfl, ⟨_, hb⟩, hc1, hg1⟩
  replace hb := hb (by omega)
  replace R := R.next hc1 hg1
  replace hr := heap_draw hr hg1 (by omega)
  clear hc1 hg1
  go_wp2_with fail
  refine (l01Below_any B g 4 _ R.cur).mono ?_
  rintro e w4 ⟨c, rfl, ⟨_, hcc⟩, hc1, hg1⟩
  replace hcc := hcc (by omega)
  replace R := R.next hc1 hg1
  replace hr := heap_draw hr hg1 (by omega)
  have hw4 := hc1.lt
  have hrl := heap_lt hr
  clear hc1 hg1
  replace R := R.alloc (.cells #[.int .i64 0, .int .i64 d, .int .i64 a, .int .i64 b, .int .i64 c, .int .i64 0] 49)
  replace hr := heap_alloc hr (.cells #[.int .i64 0, .int .i64 d, .int .i64 a, .int .i64 b, .int .i64 c, .int .i64 0] 49)
  have hs := heap_alloc_new w4 (.cells #[.int .i64 0, .int .i64 d, .int .i64 a, .int .i64 b, .int .i64 c, .int .i64 0] 49)
  go_wp2_with fail
  refine (l01Below_any B g 12 _ R.cur).mono ?_
  rintro e w5 ⟨x, rfl, ⟨_, hx⟩, hc1, hg1⟩
  replace hx := hx (by omega)
  replace R := R.next hc1 hg1
  replace hr := heap_draw hr hg1 (by omega)
  replace hs := heap_draw hs hg1 (by omega)
  clear hc1 hg1 hc
  have hne : w.heap.size ≠ w4.heap.size := by omega
  have hle : w.heap.size ≤ w4.heap.size := by omega
  have Hle := Lib.hid hle
  clear hle hrl hw4
  generalize w4.heap.size = q at *
  have gz : g ≠ w.heap.size := by omega
  have gq : g ≠ q := by have := Hle.out; omega
  obtain ⟨u0, k0⟩ := blk (i := 0) hs rfl
  obtain ⟨u2, k2⟩ := blk (i := 2) hs rfl
  obtain ⟨u5, k5⟩ := blk (i := 5) hs rfl
  obtain ⟨hx0, hx1⟩ := hx
  rcases (show x = 0 ∨ (1 ≤ x ∧ x ≤ 3) ∨ x = 4 ∨ (5 ≤ x ∧ x ≤ 6) ∨ 7 ≤ x by omega) with hx | hx | hx | hx | hx
  · subst hx
    clear hx0 hx1
    replace R := R.set (b := q) Hle.out 0 (.int .i64 1)
    replace hr := heap_far (p := ⟨q, 0, none⟩) hr hne (.int .i64 1)
    replace hs := heap_set (i := 0) hs (.int .i64 1)
    go_wp2_with fail
    refine (l01Below_any B g 16 _ R.cur).mono ?_
    rintro e w6 ⟨n, rfl, ⟨_, hn⟩, hc1, hg1⟩
    replace hn := hn (by omega)
    replace R := R.next hc1 hg1
    replace hr := heap_draw hr hg1 gz
    replace hs := heap_draw hs hg1 gq
    clear hc1 hg1 k0 k2 k5 u0 u2 u5
    obtain ⟨u5, k5⟩ := blk (i := 5) hs rfl
    replace R := R.set (b := q) Hle.out 5 (.int .i64 n)
    replace hr := heap_far (p := ⟨q, 5, none⟩) hr hne (.int .i64 n)
    replace hs := heap_set (i := 5) hs (.int .i64 n)
    have c0 := (blk (i := 0) hs rfl).1
    have c1 := (blk (i := 1) hs rfl).1
    have c2 := (blk (i := 2) hs rfl).1
    have c3 := (blk (i := 3) hs rfl).1
    have c4 := (blk (i := 4) hs rfl).1
    have c5 := (blk (i := 5) hs rfl).1
    go_wp2_with fail
    refine (spec_l08Plain _ _ _ _ _ _ _).mono ?_
    rintro e w8 ⟨rfl, hb8⟩
    have hp : plainSt (plainI 1 d a b c n) := plain_con hd hn
    generalize plainI 1 d a b c n = s at *
    obtain ⟨so, sd, sa, sb, sc, sn⟩ := s
    have R8 := R.below hb8
    have hr8 := heap_below hr hb8
    obtain ⟨v0, f0⟩ := blk (i := 0) hr8 rfl
    obtain ⟨v1, f1⟩ := blk (i := 1) hr8 rfl
    obtain ⟨v2, f2⟩ := blk (i := 2) hr8 rfl
    obtain ⟨v3, f3⟩ := blk (i := 3) hr8 rfl
    obtain ⟨v4, f4⟩ := blk (i := 4) hr8 rfl
    obtain ⟨v5, f5⟩ := blk (i := 5) hr8 rfl
    simp only [St.v]
    clear hs hr hb8 c0 c1 c2 c3 c4 c5
    go_wp2_with fail
    (try simp only [Exit.inBlock, Exit.then])
    refine bodyPost_ret (results_cell_row (P := Tryz.prog) rfl _ _ w.heap.size 49 _ (0, 0) _ rfl (heap_set (heap_set (heap_set (heap_set (heap_set (heap_set hr8 _) _) _) _) _) _) Tryz.underlying49 rfl (by kernel_rfl)) rfl ?_
    exact ⟨_, rfl, hp, (((((R8.set (Nat.le_refl _) _ _).set (Nat.le_refl _) _ _).set (Nat.le_refl _) _ _).set (Nat.le_refl _) _ _).set (Nat.le_refl _) _ _).set (Nat.le_refl _) _ _⟩
  · have t0 : (x == 0) = false := beq_eq_false_iff_ne.2 (by omega)
    have hx' : x = 1 ∨ x = 2 ∨ x = 3 := by omega
    clear hx hx0 hx1
    replace R := R.set (b := q) Hle.out 0 (.int .i64 2)
    replace hr := heap_far (p := ⟨q, 0, none⟩) hr hne (.int .i64 2)
    replace hs := heap_set (i := 0) hs (.int .i64 2)
    rcases hx' with rfl | rfl | rfl
    all_goals
      clear t0
      go_wp2_with fail
      refine (l01Below_any B g 3 _ R.cur).mono ?_
      rintro e w6 ⟨n, rfl, ⟨_, hn⟩, hc1, hg1⟩
      replace hn := hn (by omega)
      replace R := R.next hc1 hg1
      replace hr := heap_draw hr hg1 gz
      replace hs := heap_draw hs hg1 gq
      clear hc1 hg1 k0 k2 k5 u0 u2 u5
      obtain ⟨u2, k2⟩ := blk (i := 2) hs rfl
      replace R := R.set (b := q) Hle.out 2 (.int .i64 n)
      replace hr := heap_far (p := ⟨q, 2, none⟩) hr hne (.int .i64 n)
      replace hs := heap_set (i := 2) hs (.int .i64 n)
      go_wp2_with fail
      refine (l01Below_any B g 2 _ R.cur).mono ?_
      rintro e w7 ⟨m, rfl, ⟨_, hm⟩, hc1, hg1⟩
      replace hm := hm (by omega)
      replace R := R.next hc1 hg1
      replace hr := heap_draw hr hg1 gz
      replace hs := heap_draw hs hg1 gq
      clear hc1 hg1 k2 u2
      obtain ⟨u5, k5⟩ := blk (i := 5) hs rfl
      replace R := R.set (b := q) Hle.out 5 (.int .i64 m)
      replace hr := heap_far (p := ⟨q, 5, none⟩) hr hne (.int .i64 m)
      replace hs := heap_set (i := 5) hs (.int .i64 m)
      have c0 := (blk (i := 0) hs rfl).1
      have c1 := (blk (i := 1) hs rfl).1
      have c2 := (blk (i := 2) hs rfl).1
      have c3 := (blk (i := 3) hs rfl).1
      have c4 := (blk (i := 4) hs rfl).1
      have c5 := (blk (i := 5) hs rfl).1
      go_wp2_with fail
      refine (spec_l08Plain _ _ _ _ _ _ _).mono ?_
      rintro e w8 ⟨rfl, hb8⟩
      have hp : plainSt (plainI 2 d n b c m) := plain_inp hd hn hm
      generalize plainI 2 d n b c m = s at *
      obtain ⟨so, sd, sa, sb, sc, sn⟩ := s
      have R8 := R.below hb8
      have hr8 := heap_below hr hb8
      obtain ⟨v0, f0⟩ := blk (i := 0) hr8 rfl
      obtain ⟨v1, f1⟩ := blk (i := 1) hr8 rfl
      obtain ⟨v2, f2⟩ := blk (i := 2) hr8 rfl
      obtain ⟨v3, f3⟩ := blk (i := 3) hr8 rfl
      obtain ⟨v4, f4⟩ := blk (i := 4) hr8 rfl
      obtain ⟨v5, f5⟩ := blk (i := 5) hr8 rfl
      simp only [St.v]
      clear hs hr hb8 c0 c1 c2 c3 c4 c5
      go_wp2_with fail
      (try simp only [Exit.inBlock, Exit.then])
      refine bodyPost_ret (results_cell_row (P := Tryz.prog) rfl _ _ w.heap.size 49 _ (0, 0) _ rfl (heap_set (heap_set (heap_set (heap_set (heap_set (heap_set hr8 _) _) _) _) _) _) Tryz.underlying49 rfl (by kernel_rfl)) rfl ?_
      exact ⟨_, rfl, hp, (((((R8.set (Nat.le_refl _) _ _).set (Nat.le_refl _) _ _).set (Nat.le_refl _) _ _).set (Nat.le_refl _) _ _).set (Nat.le_refl _) _ _).set (Nat.le_refl _) _ _⟩
  · subst hx
    clear hx0 hx1
    replace R := R.set (b := q) Hle.out 0 (.int .i64 10)
    replace hr := heap_far (p := ⟨q, 0, none⟩) hr hne (.int .i64 10)
    replace hs := heap_set (i := 0) hs (.int .i64 10)
    have c0 := (blk (i := 0) hs rfl).1
    have c1 := (blk (i := 1) hs rfl).1
    have c2 := (blk (i := 2) hs rfl).1
    have c3 := (blk (i := 3) hs rfl).1
    have c4 := (blk (i := 4) hs rfl).1
    have c5 := (blk (i := 5) hs rfl).1
    go_wp2_with fail
    refine (spec_l08Plain _ _ _ _ _ _ _).mono ?_
    rintro e w8 ⟨rfl, hb8⟩
    have hp : plainSt (plainI 10 d a b c 0) := plain_mux hd ha hb hcc
    generalize plainI 10 d a b c 0 = s at *
    obtain ⟨so, sd, sa, sb, sc, sn⟩ := s
    have R8 := R.below hb8
    have hr8 := heap_below hr hb8
    obtain ⟨v0, f0⟩ := blk (i := 0) hr8 rfl
    obtain ⟨v1, f1⟩ := blk (i := 1) hr8 rfl
    obtain ⟨v2, f2⟩ := blk (i := 2) hr8 rfl
    obtain ⟨v3, f3⟩ := blk (i := 3) hr8 rfl
    obtain ⟨v4, f4⟩ := blk (i := 4) hr8 rfl
    obtain ⟨v5, f5⟩ := blk (i := 5) hr8 rfl
    simp only [St.v]
    clear hs hr hb8 c0 c1 c2 c3 c4 c5
    go_wp2_with fail
    (try simp only [Exit.inBlock, Exit.then])
    refine bodyPost_ret (results_cell_row (P := Tryz.prog) rfl _ _ w.heap.size 49 _ (0, 0) _ rfl (heap_set (heap_set (heap_set (heap_set (heap_set (heap_set hr8 _) _) _) _) _) _) Tryz.underlying49 rfl (by kernel_rfl)) rfl ?_
    exact ⟨_, rfl, hp, (((((R8.set (Nat.le_refl _) _ _).set (Nat.le_refl _) _ _).set (Nat.le_refl _) _ _).set (Nat.le_refl _) _ _).set (Nat.le_refl _) _ _).set (Nat.le_refl _) _ _⟩
  · have hx' : x = 5 ∨ x = 6 := by omega
    clear hx hx0 hx1
    replace R := R.set (b := q) Hle.out 0 (.int .i64 11)
    replace hr := heap_far (p := ⟨q, 0, none⟩) hr hne (.int .i64 11)
    replace hs := heap_set (i := 0) hs (.int .i64 11)
    rcases hx' with rfl | rfl
    all_goals
      have c0 := (blk (i := 0) hs rfl).1
      have c1 := (blk (i := 1) hs rfl).1
      have c2 := (blk (i := 2) hs rfl).1
      have c3 := (blk (i := 3) hs rfl).1
      have c4 := (blk (i := 4) hs rfl).1
      have c5 := (blk (i := 5) hs rfl).1
      go_wp2_with fail
      refine (spec_l08Plain _ _ _ _ _ _ _).mono ?_
      rintro e w8 ⟨rfl, hb8⟩
      have hp : plainSt (plainI 11 d a b c 0) := plain_out ha
      generalize plainI 11 d a b c 0 = s at *
      obtain ⟨so, sd, sa, sb, sc, sn⟩ := s
      have R8 := R.below hb8
      have hr8 := heap_below hr hb8
      obtain ⟨v0, f0⟩ := blk (i := 0) hr8 rfl
      obtain ⟨v1, f1⟩ := blk (i := 1) hr8 rfl
      obtain ⟨v2, f2⟩ := blk (i := 2) hr8 rfl
      obtain ⟨v3, f3⟩ := blk (i := 3) hr8 rfl
      obtain ⟨v4, f4⟩ := blk (i := 4) hr8 rfl
      obtain ⟨v5, f5⟩ := blk (i := 5) hr8 rfl
      simp only [St.v]
      clear hs hr hb8 c0 c1 c2 c3 c4 c5
      go_wp2_with fail
      (try simp only [Exit.inBlock, Exit.then])
      refine bodyPost_ret (results_cell_row (P := Tryz.prog) rfl _ _ w.heap.size 49 _ (0, 0) _ rfl (heap_set (heap_set (heap_set (heap_set (heap_set (heap_set hr8 _) _) _) _) _) _) Tryz.underlying49 rfl (by kernel_rfl)) rfl ?_
      exact ⟨_, rfl, hp, (((((R8.set (Nat.le_refl _) _ _).set (Nat.le_refl _) _ _).set (Nat.le_refl _) _ _).set (Nat.le_refl _) _ _).set (Nat.le_refl _) _ _).set (Nat.le_refl _) _ _⟩
  · have t0 : (x == 0) = false := beq_eq_false_iff_ne.2 (by omega)
    have t1 : (x == 1) = false := beq_eq_false_iff_ne.2 (by omega)
    have t2 : (x == 2) = false := beq_eq_false_iff_ne.2 (by omega)
    have t3 : (x == 3) = false := beq_eq_false_iff_ne.2 (by omega)
    have t4 : (x == 4) = false := beq_eq_false_iff_ne.2 (by omega)
    have t5 : (x == 5) = false := beq_eq_false_iff_ne.2 (by omega)
    have t6 : (x == 6) = false := beq_eq_false_iff_ne.2 (by omega)
    clear hx hx0 hx1
    go_wp2_with fail
    refine (l01Below_any B g 7 _ R.cur).mono ?_
    rintro e w6 ⟨n, rfl, ⟨_, hn⟩, hc1, hg1⟩
    replace hn := hn (by omega)
    replace R := R.next hc1 hg1
    replace hr := heap_draw hr hg1 gz
    replace hs := heap_draw hs hg1 gq
    clear hc1 hg1 k0 k2 k5 u0 u2 u5 t0 t1 t2 t3 t4 t5 t6
    obtain ⟨u0, k0⟩ := blk (i := 0) hs rfl
    obtain ⟨hn0, hn1⟩ := hn
    replace R := R.set (b := q) Hle.out 0 (.int .i64 (3 + n))
    replace hr := heap_far (p := ⟨q, 0, none⟩) hr hne (.int .i64 (3 + n))
    replace hs := heap_set (i := 0) hs (.int .i64 (3 + n))
    have c0 := (blk (i := 0) hs rfl).1
    have c1 := (blk (i := 1) hs rfl).1
    have c2 := (blk (i := 2) hs rfl).1
    have c3 := (blk (i := 3) hs rfl).1
    have c4 := (blk (i := 4) hs rfl).1
    have c5 := (blk (i := 5) hs rfl).1
    go_wp2_with fail
    refine (spec_l08Plain _ _ _ _ _ _ _).mono ?_
    rintro e w8 ⟨rfl, hb8⟩
    have hp : plainSt (plainI (3 + n) d a b c 0) := plain_bin ⟨hn0, hn1⟩ hd ha hb
    generalize plainI (3 + n) d a b c 0 = s at *
    obtain ⟨so, sd, sa, sb, sc, sn⟩ := s
    have R8 := R.below hb8
    have hr8 := heap_below hr hb8
    obtain ⟨v0, f0⟩ := blk (i := 0) hr8 rfl
    obtain ⟨v1, f1⟩ := blk (i := 1) hr8 rfl
    obtain ⟨v2, f2⟩ := blk (i := 2) hr8 rfl
    obtain ⟨v3, f3⟩ := blk (i := 3) hr8 rfl
    obtain ⟨v4, f4⟩ := blk (i := 4) hr8 rfl
    obtain ⟨v5, f5⟩ := blk (i := 5) hr8 rfl
    simp only [St.v]
    clear hs hr hb8 c0 c1 c2 c3 c4 c5
    go_wp2_with fail
    (try simp only [Exit.inBlock, Exit.then])
    refine bodyPost_ret (results_cell_row (P := Tryz.prog) rfl _ _ w.heap.size 49 _ (0, 0) _ rfl (heap_set (heap_set (heap_set (heap_set (heap_set (heap_set hr8 _) _) _) _) _) _) Tryz.underlying49 rfl (by kernel_rfl)) rfl ?_
    exact ⟨_, rfl, hp, (((((R8.set (Nat.le_refl _) _ _).set (Nat.le_refl _) _ _).set (Nat.le_refl _) _ _).set (Nat.le_refl _) _ _).set (Nat.le_refl _) _ _).set (Nat.le_refl _) _ _⟩
end Go.Proofs.YtjfmcdfgccdmpaaGreat
