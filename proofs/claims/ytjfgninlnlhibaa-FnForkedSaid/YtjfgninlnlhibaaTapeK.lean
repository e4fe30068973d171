/- The law FnForked. -/
import Derived.Test.YtjfgninlnlhibaaProg
import Derived.Test.YtjfgninlnlhibaaTapeT
import Derived.Test.YtjfgninlnlhibaaTape
namespace Go.Proofs.Ytjfgninlnlhibaa
open Go Go.RowKit
theorem cell_below {w w' : World} {p : Addr} {v : Value} (hc : w.cell? p = some v) (hb : Below w.heap.size w w') : w'.cell? p = some v :=
  (hb.cell (World.block_lt_of_cell? w p hc)).trans hc
theorem impl_TapeFork_keep (s a n f : Int) (hf : tfI s a n = f) (p1 p2 p3 p4 : Addr) (v1 v2 v3 v4 : Value) (B : Nat) (w0 w : World) (h1 : w.cell? p1 = some v1) (h2 : w.cell? p2 = some v2) (h3 : w.cell? p3 = some v3) (h4 : w.cell? p4 = some v4) (hb : Below B w0 w) (hs : B ≤ w.heap.size) :
    Calls Try.prog 16 #[.agg #[.int .i64 s, .int .i64 a], .int .i64 n] w fun e w' => e = .returned (.agg #[.int .i64 f, .int .i64 0]) ∧ w'.cell? p1 = some v1 ∧ w'.cell? p2 = some v2 ∧ w'.cell? p3 = some v3 ∧ w'.cell? p4 = some v4 ∧ Below B w0 w' ∧ B ≤ w'.heap.size ∧ Below w.heap.size w w' := by
  subst hf
  exact (impl_TapeFork s a n w).mono fun _ _ ⟨he, hb'⟩ => ⟨he, cell_below h1 hb', cell_below h2 hb', cell_below h3 hb', cell_below h4 hb', hb.trans (hb'.mono hs), Nat.le_trans hs hb'.size, hb'⟩
theorem impl_TapeFork_keep6 (s a n f : Int) (hf : tfI s a n = f) (p1 p2 p3 p4 p5 p6 : Addr) (v1 v2 v3 v4 v5 v6 : Value) (B : Nat) (w0 w : World) (h1 : w.cell? p1 = some v1) (h2 : w.cell? p2 = some v2) (h3 : w.cell? p3 = some v3) (h4 : w.cell? p4 = some v4) (h5 : w.cell? p5 = some v5) (h6 : w.cell? p6 = some v6) (hb : Below B w0 w) (hs : B ≤ w.heap.size) :
    Calls Try.prog 16 #[.agg #[.int .i64 s, .int .i64 a], .int .i64 n] w fun e w' => e = .returned (.agg #[.int .i64 f, .int .i64 0]) ∧ w'.cell? p1 = some v1 ∧ w'.cell? p2 = some v2 ∧ w'.cell? p3 = some v3 ∧ w'.cell? p4 = some v4 ∧ w'.cell? p5 = some v5 ∧ w'.cell? p6 = some v6 ∧ Below B w0 w' ∧ B ≤ w'.heap.size ∧ Below w.heap.size w w' := by
  subst hf
  exact (impl_TapeFork s a n w).mono fun _ _ ⟨he, hb'⟩ => ⟨he, cell_below h1 hb', cell_below h2 hb', cell_below h3 hb', cell_below h4 hb', cell_below h5 hb', cell_below h6 hb', hb.trans (hb'.mono hs), Nat.le_trans hs hb'.size, hb'⟩
theorem new_cells (w : World) (T : TypeId) (x y : Value) : (w.alloc (.cells #[x, y] T)).cell? ⟨w.heap.size, 0, none⟩ = some x ∧ (w.alloc (.cells #[x, y] T)).cell? ⟨w.heap.size, 1, none⟩ = some y :=
  ⟨(box2 (heap_alloc_new w _)).1, (box2 (heap_alloc_new w _)).2.1⟩
theorem old_cell {w : World} {p : Addr} {v : Value} (o : Obj) (h : w.cell? p = some v) : (w.alloc o).cell? p = some v := cell_below h ((Below.refl _ _).alloc (Nat.le_refl _) _)
theorem set_cells {w : World} {G : Nat} {T : TypeId} {x y : Value} (h : w.heap[G]? = some (.cells #[x, y] T (0, 0))) (u v : Value) :
    ((w.setCell ⟨G, 0, none⟩ u).setCell ⟨G, 1, none⟩ v).cell? ⟨G, 0, none⟩ = some u ∧ ((w.setCell ⟨G, 0, none⟩ u).setCell ⟨G, 1, none⟩ v).cell? ⟨G, 1, none⟩ = some v :=
  ⟨(box2 (box2_set h u v)).1, (box2 (box2_set h u v)).2.1⟩
theorem far_cell {w : World} {G : Nat} {p : Addr} {z : Value} (h : w.cell? p = some z) (hne : p.block ≠ G) (u v : Value) :
    ((w.setCell ⟨G, 0, none⟩ u).setCell ⟨G, 1, none⟩ v).cell? p = some z :=
  (World.cell?_of_block (box2_other hne u v)).trans h
theorem set_below {B G : Nat} {w0 w : World} (h : Below B w0 w) (hG : B ≤ G) (u v : Value) : Below B w0 ((w.setCell ⟨G, 0, none⟩ u).setCell ⟨G, 1, none⟩ v) :=
  (h.setCell (p := ⟨G, 0, none⟩) hG _).setCell (p := ⟨G, 1, none⟩) hG _
set_option maxHeartbeats 2000000 in
theorem FnForked_walk (A : Option Addr) (n c : Nat) (w : World) (hb : Bytes w.heap.size w A n) (hm : n ≤ 9223372036854775807) :
    Calls Try.prog 4 #[.slice A n c] w fun e w' => e = .returned (.bool true) ∧ Below w.heap.size w w' := by
  by_cases hn : 1048576 < n
  · go_enter Try.func4, Try.ntmps4
    go_wp2_with fail
    refine (big_any A n c w true (by simpa using hn) hm).mono ?_
    rintro e w1 ⟨rfl, rfl⟩
    go_wp2_with fail
    go_ret
    exact ⟨rfl, Below.refl _ _⟩
  · have hn' : n ≤ 1048576 := by omega
    go_enter Try.func4, Try.ntmps4
    go_wp2_with fail
    refine (big_any A n c w false (by simpa using hn') hm).mono ?_
    rintro e w1 ⟨rfl, rfl⟩
    go_wp2_with fail
    refine (DrawTape_any A n c w hb (by omega)).mono ?_
    rintro e w1 ⟨s, a, rfl, hs, ha0, ha1, hb1⟩
    have hb1' := hb1.alloc hb1.size (.cells #[.int .i64 s, .int .i64 a] 25)
    have hbA := hb.keep fun k hk => hb1'.block k hk
    have h3 := heap_alloc_new w1 (.cells #[.int .i64 s, .int .i64 a] 25)
    go_wp2_with fail
    refine (DrawPlaces_any A n c _ (fun h => by obtain ⟨b, o, e, hl, hc⟩ := hbA h; exact ⟨b, o, e, Nat.lt_of_lt_of_le hl hb1'.size, hc⟩) (by omega)).mono ?_
    rintro e w2 ⟨g, cap, zs, rfl, hl, hpl, hown, hb2⟩
    have h3' := box2_below h3 hb2
    have hb3 := hb1'.trans (hb2.mono hb1'.size)
    have hi := Ints.of_own hown
    obtain ⟨b0, o0, e0, hl0, c0⟩ := hi.at_ (j := 0) (by omega)
    obtain ⟨b1, o1, e1, hl1, c1⟩ := hi.at_ (j := 1) (by omega)
    injection e0 with e0; injection e0 with e00 e01
    injection e1 with e1; injection e1 with e10 e11
    subst e00 e01 e10 e11
    obtain ⟨x0, x1⟩ := hpl.at_ (j := 0) (by omega)
    obtain ⟨y0, y1⟩ := hpl.at_ (j := 1) (by omega)
    generalize zs.getD 0 0 = qa at c0 x0 x1
    generalize zs.getD 1 0 = qb at c1 y0 y1
    simp only [Nat.zero_add] at c0 c1
    obtain ⟨t0, t1, _, _⟩ := box2 h3'
    have Hs := Lib.hid hs
    clear hown hi hpl hl hb hbA hb1 hb2 hm hn hn' hb1' h3 hs
    generalize w1.heap.size = g3 at h3' t0 t1 ⊢
    obtain ⟨fa, hfa⟩ : ∃ f, tfI s a qa = f := ⟨_, rfl⟩
    obtain ⟨fb, hfb⟩ : ∃ f, tfI s a qb = f := ⟨_, rfl⟩
    have Hfa := Lib.hid hfa
    have Hfb := Lib.hid hfb
    have hl3 : g3 < w2.heap.size := (Array.getElem?_eq_some_iff.1 h3').1
    have hs3 := hb3.size
    have hbd : Below w.heap.size w w2.drew := hb3.drew
    have n1 := World.new_ne w2 _ t0
    have n2 := World.new_ne w2 _ c0
    have bal : Below w2.heap.size w2 (w2.alloc (.cells #[.int .i64 0, .int .i64 0] 25)).drew := ((Below.refl _ _).alloc (Nat.le_refl _) _).drew
    have q0 := cell_below t0 bal
    have q1 := cell_below t1 bal
    have q2 := cell_below c0 bal
    have q3 := cell_below c1 bal
    have q4 := hb3.trans (bal.mono hs3)
    have q5 := q4.size
    have hnew : (w2.alloc (.cells #[.int .i64 0, .int .i64 0] 25)).drew.heap[w2.heap.size]? = some (.cells #[.int .i64 0, .int .i64 0] 25 (0, 0)) := heap_alloc_new w2 _
    clear hfa hfb h3' bal
    go_upto_region 5 with (fail)
    go_cut [5] (fun s5 wx => ∃ g5 : Nat, s5 = .pointer (some ⟨g5, 0, none⟩) ∧ wx.cell? ⟨g5, 0, none⟩ = some (.int .i64 fa) ∧ wx.cell? ⟨g5, 1, none⟩ = some (.int .i64 0) ∧ wx.cell? ⟨g3, 0, none⟩ = some (.int .i64 s) ∧ wx.cell? ⟨g3, 1, none⟩ = some (.int .i64 a) ∧ wx.cell? ⟨g, 0, none⟩ = some (.int .i64 qa) ∧ wx.cell? ⟨g, 1, none⟩ = some (.int .i64 qb) ∧ Below w.heap.size w wx)
    case first =>
      go_wp2_with fail
      go_region_held3 (fun w' => w'.cell? ⟨g3, 0, none⟩ = some (.int .i64 s) ∧ w'.cell? ⟨g3, 1, none⟩ = some (.int .i64 a) ∧ w'.cell? ⟨g, 0, none⟩ = some (.int .i64 qa) ∧ w'.cell? ⟨g, 1, none⟩ = some (.int .i64 qb) ∧ Below w.heap.size w w' ∧ w.heap.size ≤ w'.heap.size) (refine ⟨?_, ?_, ?_, ?_, ?_, ?_⟩ <;> first | assumption | (go_keep; done) | (go_grown; done) | (go_size; done) | (simp; omega)) (first | (go_at_call 16; (with_reducible refine (impl_TapeFork_keep s a qa fa Hfa.out ⟨g3, 0, none⟩ ⟨g3, 1, none⟩ ⟨g, 0, none⟩ ⟨g, 1, none⟩ (.int .i64 s) (.int .i64 a) (.int .i64 qa) (.int .i64 qb) w.heap.size w _ ?_ ?_ ?_ ?_ ?_ ?_).mono ?_); assumption; assumption; assumption; assumption; assumption; assumption; rintro e w' ⟨rfl, hk1, hk2, hk3, hk4, hk5, hk6, hbel⟩; (try (have hx := box2_below hnew hbel; obtain ⟨z0, z1, z2, z3⟩ := box2 hx))))
      all_goals
        go_wp2_with fail
        go_meet
        first
          | exact ⟨_, rfl, (new_cells w' _ _ _).1, (new_cells w' _ _ _).2, old_cell _ hk1, old_cell _ hk2, old_cell _ hk3, old_cell _ hk4, hk5.alloc hk6 _⟩
          | exact ⟨_, rfl, (set_cells hx _ _).1, (set_cells hx _ _).2, far_cell hk1 n1.symm _ _, far_cell hk2 n1.symm _ _, far_cell hk3 n2.symm _ _, far_cell hk4 n2.symm _ _, set_below hk5 hs3 _ _⟩
    case rest =>
      obtain ⟨g5, rfl, a0, a1, b0, b1, d0, d1, hlow⟩ := hcut
      have hs5 := hlow.size
      have hbd5 : Below w.heap.size w wc.drew := hlow.drew
      have n3 := World.new_ne wc _ b0
      have n4 := World.new_ne wc _ d0
      have n5 := World.new_ne wc _ a0
      have bal : Below wc.heap.size wc (wc.alloc (.cells #[.int .i64 0, .int .i64 0] 25)).drew := ((Below.refl _ _).alloc (Nat.le_refl _) _).drew
      have q0' := cell_below b0 bal
      have q1' := cell_below b1 bal
      have q2' := cell_below d0 bal
      have q3' := cell_below d1 bal
      have q4' := cell_below a0 bal
      have q5' := cell_below a1 bal
      have q6' := hlow.trans (bal.mono hs5)
      have q7' := q6'.size
      have hnew' : (wc.alloc (.cells #[.int .i64 0, .int .i64 0] 25)).drew.heap[wc.heap.size]? = some (.cells #[.int .i64 0, .int .i64 0] 25 (0, 0)) := heap_alloc_new wc _
      clear q0 q1 q2 q3 q4 q5 hnew bal hbd n1 n2 t0 t1 c0 c1 hb3 hl0 hl1 hl3 hs3
      go_upto_region 6 with (fail)
      go_cut [6] (fun s6 wx => ∃ g6 : Nat, s6 = .pointer (some ⟨g6, 0, none⟩) ∧ wx.cell? ⟨g6, 0, none⟩ = some (.int .i64 fb) ∧ wx.cell? ⟨g6, 1, none⟩ = some (.int .i64 0) ∧ wx.cell? ⟨g5, 0, none⟩ = some (.int .i64 fa) ∧ wx.cell? ⟨g5, 1, none⟩ = some (.int .i64 0) ∧ wx.cell? ⟨g, 0, none⟩ = some (.int .i64 qa) ∧ wx.cell? ⟨g, 1, none⟩ = some (.int .i64 qb) ∧ Below w.heap.size w wx)
      case first =>
        go_wp2_with fail
        go_region_held3 (fun w' => w'.cell? ⟨g3, 0, none⟩ = some (.int .i64 s) ∧ w'.cell? ⟨g3, 1, none⟩ = some (.int .i64 a) ∧ w'.cell? ⟨g, 0, none⟩ = some (.int .i64 qa) ∧ w'.cell? ⟨g, 1, none⟩ = some (.int .i64 qb) ∧ w'.cell? ⟨g5, 0, none⟩ = some (.int .i64 fa) ∧ w'.cell? ⟨g5, 1, none⟩ = some (.int .i64 0) ∧ Below w.heap.size w w' ∧ w.heap.size ≤ w'.heap.size) (refine ⟨?_, ?_, ?_, ?_, ?_, ?_, ?_, ?_⟩ <;> first | assumption | (go_keep; done) | (go_grown; done) | (go_size; done) | (simp; omega)) (first | (go_at_call 16; (with_reducible refine (impl_TapeFork_keep6 s a qb fb Hfb.out ⟨g3, 0, none⟩ ⟨g3, 1, none⟩ ⟨g, 0, none⟩ ⟨g, 1, none⟩ ⟨g5, 0, none⟩ ⟨g5, 1, none⟩ (.int .i64 s) (.int .i64 a) (.int .i64 qa) (.int .i64 qb) (.int .i64 fa) (.int .i64 0) w.heap.size w _ ?_ ?_ ?_ ?_ ?_ ?_ ?_ ?_).mono ?_); assumption; assumption; assumption; assumption; assumption; assumption; assumption; assumption; rintro e w' ⟨rfl, hk1, hk2, hk3, hk4, hk7, hk8, hk5, hk6, hbel⟩; (try (have hx := box2_below hnew' hbel; obtain ⟨z0, z1, z2, z3⟩ := box2 hx))))
        all_goals
          go_wp2_with fail
          go_meet
          first
            | exact ⟨_, rfl, (new_cells w' _ _ _).1, (new_cells w' _ _ _).2, old_cell _ hk7, old_cell _ hk8, old_cell _ hk3, old_cell _ hk4, hk5.alloc hk6 _⟩
            | exact ⟨_, rfl, (set_cells hx _ _).1, (set_cells hx _ _).2, far_cell hk7 n5.symm _ _, far_cell hk8 n5.symm _ _, far_cell hk3 n4.symm _ _, far_cell hk4 n4.symm _ _, set_below hk5 hs5 _ _⟩
      case rest =>
        obtain ⟨g6, rfl, e0, e1, f0, f1, d2, d3, hlow6⟩ := hcut
        clear q0' q1' q2' q3' q4' q5' q6' q7' hnew' n3 n4 n5 a0 a1 b0 b1 d0 d1 hbd5 hlow hs5
        have wfa : isWord fa := by
          rw [← Hfa.out]
          unfold tfI
          split
          · exact keyedI_word _ _ _
          · unfold isWord; omega
        have hmore : more fa 0 := ⟨⟨wfa, by omega, by omega⟩, by omega⟩
        have Ew := Lib.hid (show twI fa 0 = keyedI fa 7 0 from if_pos hmore)
        have Ea := Lib.hid (show taI fa 0 = 1 from if_pos hmore)
        have hwx := keyedI_word fa 7 0
        generalize keyedI fa 7 0 = x at Ew hwx
        have Hwx := Lib.hid hwx
        have hsame : (qa = qb ∧ fa = fb) ∨ (qa ≠ qb ∧ fa ≠ fb) := by
          by_cases hq : qa = qb
          · exact .inl ⟨hq, by rw [← Hfa.out, ← Hfb.out, hq]⟩
          · refine .inr ⟨hq, fun e => hq ?_⟩
            have o1 : forkOk s a qa := ⟨⟨Hs.out, ha0, by omega⟩, x0, by omega⟩
            have o2 : forkOk s a qb := ⟨⟨Hs.out, ha0, by omega⟩, y0, by omega⟩
            have k1 : keyedI s 9 qa = fa := by rw [← Hfa.out]; exact (if_pos o1).symm
            have k2 : keyedI s 9 qb = fb := by rw [← Hfb.out]; exact (if_pos o2).symm
            exact keyedI_inj Hs.out (by unfold isWord; omega) (by unfold isWord; omega) (by unfold isWord; omega) (k1.trans (e.trans k2.symm))
        clear hwx hmore wfa
        go_wp2_with fail
        refine (impl_TapeWord fa 0 _).mono ?_
        rw [Ew.out, Ea.out]
        rintro e w8 ⟨rfl, hb8⟩
        have hal := (Below.refl w8.heap.size w8).alloc (Nat.le_refl _) (.cells #[.int .i64 fa, .int .i64 1] 25)
        have r0 := cell_below (cell_below e0 hb8) hal
        have r1 := cell_below (cell_below e1 hb8) hal
        have r2 := cell_below (cell_below f0 hb8) hal
        have r3 := cell_below (cell_below f1 hb8) hal
        have r4 := cell_below (cell_below d2 hb8) hal
        have r5 := cell_below (cell_below d3 hb8) hal
        obtain ⟨r6, r7⟩ := new_cells w8 25 (.int .i64 fa) (.int .i64 1)
        have hlow8 := Lib.hid ((hlow6.trans (hb8.mono hlow6.size)).trans (hal.mono (by have := hlow6.size; have := hb8.size; omega)))
        clear e0 e1 f0 f1 d2 d3 hlow6 hb8 hal
        rcases hsame with ⟨rfl, rfl⟩ | ⟨hq, hf⟩
        · go_wp2_with fail
          go_quiet (first | (go_at_call 18; refine Calls.quiet_of_same ((impl_IsWord_yes x Hwx.out _).mono fun _ _ ⟨he, hw⟩ => ⟨he, hw.symm⟩)))
          go_wp2_with fail
          go_ret
          exact ⟨rfl, below_drewN hlow8.out _⟩
        · have bq : (qa == qb) = false := beq_eq_false_iff_ne.2 hq
          have bf : (fa == fb) = false := beq_eq_false_iff_ne.2 hf
          go_wp2_with fail
          go_quiet (first | (go_at_call 18; refine Calls.quiet_of_same ((impl_IsWord_yes x Hwx.out _).mono fun _ _ ⟨he, hw⟩ => ⟨he, hw.symm⟩)))
          go_wp2_with fail
          go_ret
          exact ⟨rfl, below_drewN hlow8.out _⟩
end Go.Proofs.Ytjfgninlnlhibaa
