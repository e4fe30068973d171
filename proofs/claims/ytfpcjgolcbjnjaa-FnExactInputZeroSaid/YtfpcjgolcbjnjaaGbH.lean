/- Garble, the program's. No condition. -/
import Derived.Test.YtfpcjgolcbjnjaaProg
import Derived.Test.YtfpcjgolcbjnjaaGbG
import Derived.Test.YtfpcjgolcbjnjaaGbS
import Derived.Deep.OwnRows
import Derived.BigRegion
namespace Go.Proofs.Ytfpcjgolcbjnjaa
open Go Go.RowKit
/-- make of an empty slice with room, for every world. -/
theorem run_make_room (P : Program) (t e : TypeId) (z : Value) (bytes : Nat) (ht : P.underlying t = some (.slice e)) (hinfo : (P.info? e).map (fun i => (i.zero, i.size, i.bytes)) = some (some z, 1, bytes)) (hz1 : z.cells = #[z])
    (n : Nat) (hbytes : bytes * n ≤ 281474976710656) (h63 : n ≤ 9223372036854775807) (w : World) :
    (Instr.makeSlice t (.int .i64 0) (.int .i64 (n : Int))).run P w = .ok (.slice (some ⟨w.heap.size, 0, none⟩) 0 n) (w.alloc (.cells (madeCells #[z] n) e)) := by
  obtain ⟨i, hi, hzz⟩ := Option.map_eq_some_iff.1 hinfo
  simp only [Prod.mk.injEq] at hzz
  obtain ⟨hz, hs, hb⟩ := hzz
  have hb' : (i.bytes : Int) * (n : Int) ≤ 281474976710656 := by
    have h : ((i.bytes * n : Nat) : Int) ≤ 281474976710656 := by rw [hb]; omega
    rwa [Int.natCast_mul] at h
  have hr := run_make (P := P) w t e i z ht hi hz .i64 .i64 0 n (by omega) (by omega) hb' (by omega)
  simp only [Int.toNat_natCast, hs, Nat.mul_one, hz1] at hr
  exact hr
set_option maxRecDepth 100000 in
set_option maxHeartbeats 8000000 in
theorem impl_Garble (A0 : Option Addr) (n0 c0 : Nat) (z0 : List Int) (A1 : Option Addr) (n1 c1 : Nat) (z1 : List Int) (s a : Int) (w : World) (h0 : Ints w A0 z0) (l0 : z0.length = n0 * 3) (m0 : n0 ≤ 2000000) (h1 : Ints w A1 z1) (l1 : z1.length = n1) (m1 : n1 ≤ 2000000) :
    Calls Try.prog 12 #[.agg #[.slice A0 n0 c0, .slice A1 n1 c1], .agg #[.int .i64 s, .int .i64 a]] w (Post_Garbled_bool (garD z0 n0 z1 s a) (garZ z0 n0 z1 s a) (garT z0 n0 z1 s a) (decide (garOk z0 n0 z1 s a)) w) := by
  have k0 := Bx3.start w 27 #[.slice A0 n0 c0, .slice A1 n1 c1] 29 #[.int .i64 s, .int .i64 a] 33 #[.int .i64 0, .slice none 0 0, .slice none 0 0]
  have i0 := h0.bound
  have i1 := h1.bound
  have L0 := Lib.hid l0
  have L1 := Lib.hid l1
  clear h0 h1 l0 l1
  have cK := fun r hr W j0 j1 => impl_CircuitOk A0 n0 c0 z0 A1 n1 c1 z1 r hr W j0 L0.out (by omega) j1 L1.out (by omega)
  have cT := impl_canStart s a
  go_enter Try.func12, Try.ntmps12
  go_wp2_with fail
  generalize hw0 : ((w.alloc (.cells #[.slice A0 n0 c0, .slice A1 n1 c1] 27)).alloc (.cells #[.int .i64 s, .int .i64 a] 29)).alloc (.cells #[.int .i64 0, .slice none 0 0, .slice none 0 0] 33) = w0 at *
  clear hw0
  have x0 := (blk (i := 0) k0.two.arg rfl).1
  have x1 := (blk (i := 1) k0.two.arg rfl).1
  have j0 := (i0.below k0.two.low).ints k0.two.low.size
  have j1 := (i1.below k0.two.low).ints k0.two.low.size
  by_cases hc : cirOk z0 n0 z1
  case neg =>
    have hno : ¬ garOk z0 n0 z1 s a := fun h => hc h.1
    have E := Lib.hid (show garD z0 n0 z1 s a = 0 ∧ garZ z0 n0 z1 s a = [] ∧ garT z0 n0 z1 s a = [] ∧ decide (garOk z0 n0 z1 s a) = false from ⟨if_neg hno, if_neg hno, if_neg hno, decide_eq_false hno⟩)
    replace cK := cK false (decide_eq_false hc) w0 j0 j1
    clear hno hc cT
    go_wp2_with fail
    refine cK.mono ?_
    rintro e w1 ⟨rfl, hb1⟩
    have k1 := k0.next hb1
    clear cK k0 x0 x1 j0 j1 hb1 i0 i1
    obtain ⟨r0, f0⟩ := blk (i := 0) k1.out rfl
    obtain ⟨r1, f1⟩ := blk (i := 1) k1.out rfl
    obtain ⟨r2, f2⟩ := blk (i := 2) k1.out rfl
    have R := Lib.hid (heap_set (i := 2) (heap_set (i := 1) (heap_set (i := 0) k1.out (.int .i64 0)) (.slice none 0 0)) (.slice none 0 0))
    have L := Lib.hid (((k1.two.low.setCell (p := ⟨w.heap.size + 1 + 1, 0, none⟩) (by simp; omega) (.int .i64 0)).setCell (p := ⟨w.heap.size + 1 + 1, 1, none⟩) (by simp; omega) (.slice none 0 0)).setCell (p := ⟨w.heap.size + 1 + 1, 2, none⟩) (by simp; omega) (.slice none 0 0))
    go_wp2_with fail
    refine bodyPost_ret (results_cell_tmp_row (P := Try.prog) rfl _ _ _ (w.heap.size + 1 + 1) 33 _ (0, 0) _ rfl rfl R.out Try.underlying33 rfl (by kernel_rfl)) rfl ?_
    rw [E.out.1, E.out.2.1, E.out.2.2.1, E.out.2.2.2]
    exact ⟨none, none, 0, 0, 0, 0, rfl, OwnGarbled.nil _ _ _, L.out⟩
  have n6 : n0 ≤ 6000 := hc.1
  replace cK := cK true (decide_eq_true hc) w0 j0 j1
  by_cases ht : dOk s a
  case neg =>
    have hno : ¬ garOk z0 n0 z1 s a := fun h => ht h.2
    have E := Lib.hid (show garD z0 n0 z1 s a = 0 ∧ garZ z0 n0 z1 s a = [] ∧ garT z0 n0 z1 s a = [] ∧ decide (garOk z0 n0 z1 s a) = false from ⟨if_neg hno, if_neg hno, if_neg hno, decide_eq_false hno⟩)
    replace cT := cT false (decide_eq_false ht)
    clear hno hc ht
    go_wp2_with fail
    refine cK.mono ?_
    rintro e w1 ⟨rfl, hb1⟩
    have k1 := k0.next hb1
    have y0 := (blk (i := 0) k1.two.res rfl).1
    have y1 := (blk (i := 1) k1.two.res rfl).1
    clear cK k0 x0 x1 j0 j1 hb1 i0 i1
    go_wp2_with fail
    refine (cT _).mono ?_
    rintro e w2 ⟨rfl, hb2⟩
    have k2 := k1.next hb2
    clear cT k1 hb2 y0 y1
    obtain ⟨r0, f0⟩ := blk (i := 0) k2.out rfl
    obtain ⟨r1, f1⟩ := blk (i := 1) k2.out rfl
    obtain ⟨r2, f2⟩ := blk (i := 2) k2.out rfl
    have R := Lib.hid (heap_set (i := 2) (heap_set (i := 1) (heap_set (i := 0) k2.out (.int .i64 0)) (.slice none 0 0)) (.slice none 0 0))
    have L := Lib.hid (((k2.two.low.setCell (p := ⟨w.heap.size + 1 + 1, 0, none⟩) (by simp; omega) (.int .i64 0)).setCell (p := ⟨w.heap.size + 1 + 1, 1, none⟩) (by simp; omega) (.slice none 0 0)).setCell (p := ⟨w.heap.size + 1 + 1, 2, none⟩) (by simp; omega) (.slice none 0 0))
    go_wp2_with fail
    refine bodyPost_ret (results_cell_tmp_row (P := Try.prog) rfl _ _ _ (w.heap.size + 1 + 1) 33 _ (0, 0) _ rfl rfl R.out Try.underlying33 rfl (by kernel_rfl)) rfl ?_
    rw [E.out.1, E.out.2.1, E.out.2.2.1, E.out.2.2.2]
    exact ⟨none, none, 0, 0, 0, 0, rfl, OwnGarbled.nil _ _ _, L.out⟩
  have hg : garOk z0 n0 z1 s a := ⟨hc, ht⟩
  obtain ⟨d0, -⟩ := dlt_lbl ht
  have cD := impl_DeltaOf s a
  have HT := Lib.hid (And.intro ht.1 hc.2.1)
  have E := Lib.hid (show garD z0 n0 z1 s a = dltI s a ∧ garZ z0 n0 z1 s a = gbZ z0 s a (dltI s a) n0 ∧ garT z0 n0 z1 s a = gbT z0 s a (dltI s a) n0 ∧ decide (garOk z0 n0 z1 s a) = true from ⟨if_pos hg, if_pos hg, if_pos hg, decide_eq_true hg⟩)
  have HZ := Lib.hid (gbZ_lbl hc.2.1 n6 ht d0)
  replace cT := cT true (decide_eq_true ht)
  generalize dltI s a = D at *
  generalize dltA s a = D2 at *
  clear hc ht hg
  go_wp2_with fail
  refine cK.mono ?_
  rintro e w1 ⟨rfl, hb1⟩
  have k1 := k0.next hb1
  have y0 := (blk (i := 0) k1.two.res rfl).1
  have y1 := (blk (i := 1) k1.two.res rfl).1
  clear cK k0 x0 x1 j0 j1 hb1
  go_wp2_with fail
  refine (cT _).mono ?_
  rintro e w2 ⟨rfl, hb2⟩
  have k2 := k1.next hb2
  clear cT k1 hb2 y0 y1
  have y0 := (blk (i := 0) k2.two.res rfl).1
  have y1 := (blk (i := 1) k2.two.res rfl).1
  go_wp2_with fail
  refine (cD _).mono ?_
  rintro e w3 ⟨rfl, hb3⟩
  have k4 := (k2.next hb3).next (below_alloc w3 (.cells #[.int .i64 s, .int .i64 D2] 29))
  clear cD hb3 y0 y1 k2
  go_upto_region 4 with (fail)
  generalize hw4 : w3.alloc (.cells #[.int .i64 s, .int .i64 D2] 29) = w4 at *
  clear hw4
  have x0 := (blk (i := 0) k4.two.arg rfl).1
  have x1 := (blk (i := 1) k4.two.arg rfl).1
  obtain ⟨M, hM⟩ : ∃ M, madeCells #[Value.int .i64 0] n0 = M := ⟨_, rfl⟩
  have hMs : M.size = n0 := by rw [← hM]; exact size_madeCells _ _
  have hmk : ∀ W, (Instr.makeSlice 25 (.int .i64 0) (.int .i64 (n0 : Int))).run Try.prog W = .ok (.slice (some ⟨W.heap.size, 0, none⟩) 0 n0) (W.alloc (.cells M 3)) := fun W => by
    rw [← hM]
    exact run_make_room Try.prog 25 3 (.int .i64 0) 8 Try.underlying25 (by kernel_rfl) rfl n0 (by omega) (by omega) W
  have z1 : Gb w4.heap.size (w4.heap.size + 1) w4 ((w4.alloc (.cells M 3)).alloc (.cells #[.slice A0 n0 c0, .slice A1 n1 c1, .int .i64 D, .slice (some ⟨w4.heap.size, 0, none⟩) 0 n0, .slice none 0 0] 77)) (GC A0 n0 c0 A1 n1 c1) 77 D (.slice (some ⟨w4.heap.size, 0, none⟩) 0 n0) (.slice none 0 0) 0 0 [] [] :=
    ⟨new_at _ _ _ (by simp), ⟨rfl, .inr ⟨w4.heap.size, n0, M, rfl, Nat.le_refl _, heap_alloc (heap_alloc_new w4 _) _, Nat.zero_le _, by unfold maxLen; omega, by omega, by simp [intVals]⟩⟩, World.ownsRow_nil _ _ _ _, by simp [Value.ownBlock], by simp [Value.ownBlock], (apart.nil _ _ _).symm, Nat.le_succ _, low_alloc (below_alloc w4 _) _, by simp; omega⟩
  have z2 : Gb w4.heap.size w4.heap.size w4 ((w4.alloc (.cells #[.slice A0 n0 c0, .slice A1 n1 c1, .int .i64 D, .slice (some ⟨w4.heap.size + 1, 0, none⟩) 0 n0, .slice none 0 0] 77)).alloc (.cells M 3)) (GC A0 n0 c0 A1 n1 c1) 77 D (.slice (some ⟨w4.heap.size + 1, 0, none⟩) 0 n0) (.slice none 0 0) 0 0 [] [] :=
    ⟨heap_alloc (heap_alloc_new w4 _) _, ⟨rfl, .inr ⟨w4.heap.size + 1, n0, M, rfl, Nat.le_succ _, new_at _ _ _ (by simp), Nat.zero_le _, by unfold maxLen; omega, by omega, by simp [intVals]⟩⟩, World.ownsRow_nil _ _ _ _, by simp [Value.ownBlock], by simp [Value.ownBlock], (apart.nil _ _ _).symm, Nat.le_refl _, low_alloc (below_alloc w4 _) _, by simp; omega⟩
  have yy0 := cell_on x0 (below_alloc w4 (.cells #[.slice none 0 0, .slice none 0 0, .int .i64 0, .slice none 0 0, .slice none 0 0] 77))
  have yy1 := cell_on x1 (below_alloc w4 (.cells #[.slice none 0 0, .slice none 0 0, .int .i64 0, .slice none 0 0, .slice none 0 0] 77))
  have yz0 := cell_on x0 (below_alloc w4 (.cells M 3))
  have yz1 := cell_on x1 (below_alloc w4 (.cells M 3))
  have yw0 := cell_on x0 (low_alloc (below_alloc w4 (.cells #[.slice none 0 0, .slice none 0 0, .int .i64 0, .slice none 0 0, .slice none 0 0] 77)) (.cells M 3))
  have yw1 := cell_on x1 (low_alloc (below_alloc w4 (.cells #[.slice none 0 0, .slice none 0 0, .int .i64 0, .slice none 0 0, .slice none 0 0] 77)) (.cells M 3))
  have yx0 := cell_on x0 (low_alloc (below_alloc w4 (.cells M 3)) (.cells #[.slice none 0 0, .slice none 0 0, .int .i64 0, .slice none 0 0, .slice none 0 0] 77))
  have yx1 := cell_on x1 (low_alloc (below_alloc w4 (.cells M 3)) (.cells #[.slice none 0 0, .slice none 0 0, .int .i64 0, .slice none 0 0, .slice none 0 0] 77))
  clear hM hMs
  go_cut [8] (fun t wx => ∃ g vz, t = .pointer (some ⟨g, 0, none⟩) ∧ Gb w4.heap.size g w4 wx (GC A0 n0 c0 A1 n1 c1) 77 D vz (.slice none 0 0) 0 0 [] [])
  case first =>
    go_region
    all_goals
      go_wp2_with fail
      go_meet
      first
        | exact ⟨_, _, rfl, z1.drew⟩
        | exact ⟨_, _, rfl, z2.drew⟩
        | exact ⟨_, _, rfl, z1⟩
        | exact ⟨_, _, rfl, z2⟩
  case rest =>
    obtain ⟨g, vz0, rfl, hS⟩ := hcut
    have HS := Lib.hid hS
    have K4 := Lib.hid k4
    have v0 := (hS.cell (i := 0) rfl).1
    clear hS k4 x0 x1 z1 z2 hmk yy0 yy1 yz0 yz1 yw0 yw1 yx0 yx1
    go_wp2_with fail
    go_loopw [36] (fun i wr => ∃ (k m : Nat) (vz vt : Value), k ≤ n0 ∧ i = .int .i64 k ∧ Gb w4.heap.size g w4 wr (GC A0 n0 c0 A1 n1 c1) 77 D vz vt k m (gbZ z0 s a D k) (gbT z0 s a D k)) (fun i _ => n0 - (intOf i).toNat)
    case atStart => exact ⟨0, 0, _, _, Nat.zero_le _, rfl, HS.out⟩
    case round =>
      clear HS v0
      obtain ⟨k, m, vz, vt, hk, rfl, gr⟩ := hrel
      have kr := K4.out.next gr.low
      by_cases hlt : k < n0
      · have k0' : (0 : Int) ≤ k := by omega
        have k1' : (k : Int) < n0 := by omega
        have m12 := gbT_small gr.tlen rfl hk n6
        have t0 := (blk (i := 0) kr.two.res rfl).1
        have t1 := (blk (i := 1) kr.two.res rfl).1
        obtain ⟨Az, cz, rfl⟩ := gr.zform
        have gd := gr.drew
        have cG := impl_garbleGate gd (by omega) hlt n6 (show Ints wr.drew A0 z0 from (i0.below kr.two.low).ints kr.two.low.size) L0.out (HT.out.2 k hlt) (HZ.out k hk) d0 s a
        have eZ : Hid (gbZ z0 s a D (k + 1) = gbZ z0 s a D k ++ [zro s a D (gbZ z0 s a D k) k (gk z0 k) (ga z0 k) (gb z0 k)]) := Lib.hid rfl
        have eT : Hid (gbT z0 s a D (k + 1) = gbT z0 s a D k ++ tbl D (gbZ z0 s a D k) k (gk z0 k) (ga z0 k) (gb z0 k)) := Lib.hid rfl
        generalize zro s a D (gbZ z0 s a D k) k (gk z0 k) (ga z0 k) (gb z0 k) = X at *
        generalize tbl D (gbZ z0 s a D k) k (gk z0 k) (ga z0 k) (gb z0 k) = Y at *
        generalize gbZ z0 s a D k = ZZ at *
        generalize gbT z0 s a D k = TT at *
        have v3 := (gr.cell (i := 3) rfl).1
        have v3d : wr.drew.cell? ⟨g, 3, none⟩ = some (.slice Az k cz) := v3
        have t0d : wr.drew.cell? ⟨w.heap.size + 1, 0, none⟩ = some (.int .i64 s) := t0
        have t1d : wr.drew.cell? ⟨w.heap.size + 1, 1, none⟩ = some (.int .i64 a) := t1
        clear gr
        go_upto_region 8 with (fail)
        go_region_law (first
          | (refine app_step (e' := 3) elemInt (by rfl) _ _ (by rfl) w4.heap.size (.slice Az k cz) k (intVals ZZ) (by rfl) h9.zer w8.heap.size 1 1 _ (0, 0) (by rfl) (heap_alloc_new w8 _) (by rfl) (oneCell_i64 [_]) (by omega) (by unfold maxLen; omega) (by omega) h9.size (w8.heap.size + 1) (by simp) ?_; intro g5 e5 w5 ho5 hg5 hat5 hl5; (have bx5 := heap_grown h9.box hg5 h9.nz); (have a5 := (blk (i := 3) bx5 rfl).1); (have f5 := (blk (i := 3) bx5 rfl).2))
          | (go_simp; go_at_call 49; (with_reducible refine cG.mono ?_); rintro e w8 ⟨vt8, m8, rfl, h8⟩; (have h9 := (gd.join h8).alloc (.cells #[.int .i64 X] 3)); (have v38 := (h8.cell (i := 3) rfl).1); (have v39 := ((h8.alloc (.cells #[.int .i64 X] 3)).cell (i := 3) rfl).1)))
        all_goals
          have H : Hid (Gb w4.heap.size g w4 (w5.setCell ⟨g, 3, none⟩ (.slice (some ⟨g5, 0, none⟩) (k + 1) e5)) (GC A0 n0 c0 A1 n1 c1) 77 D (.slice (some ⟨g5, 0, none⟩) (k + 1) e5) vt8 (k + 1) m8 (ZZ ++ [X]) (TT ++ Y)) := Lib.hid (h9.putZ ho5 hg5 hat5 (by simp))
          clear h8 h9 ho5 hg5 hat5 hl5 bx5 a5 f5 gd cG v3 v3d v38 v39 t0 t1 t0d t1d
          go_wp2_with fail
          go_roundw
          case rel => exact ⟨k + 1, m8, _, _, by omega, by go_num, by rw [eZ.out, eT.out]; exact H.out⟩
          case measure => simp [intOf]; omega
      · obtain rfl : k = n0 := by omega
        obtain ⟨Az, cz, rfl⟩ := gr.zform
        obtain ⟨At, ct, rfl⟩ := gr.tform
        have e1 : w.heap.size + 1 + 1 < w4.heap.size := K4.out.lt
        have sg := gr.size
        obtain ⟨v2, vf2⟩ := gr.cell (i := 2) rfl
        obtain ⟨v3, vf3⟩ := gr.cell (i := 3) rfl
        obtain ⟨v4, vf4⟩ := gr.cell (i := 4) rfl
        obtain ⟨r0, f0⟩ := blk (i := 0) kr.out rfl
        obtain ⟨r1, f1⟩ := blk (i := 1) kr.out rfl
        obtain ⟨r2, f2⟩ := blk (i := 2) kr.out rfl
        have R := Lib.hid (heap_set (i := 2) (heap_set (i := 1) (heap_set (i := 0) kr.out (.int .i64 D)) (.slice Az k cz)) (.slice At m ct))
        have L := Lib.hid (((kr.two.low.setCell (p := ⟨w.heap.size + 1 + 1, 0, none⟩) (by simp; omega) (.int .i64 D)).setCell (p := ⟨w.heap.size + 1 + 1, 1, none⟩) (by simp; omega) (.slice Az k cz)).setCell (p := ⟨w.heap.size + 1 + 1, 2, none⟩) (by simp; omega) (.slice At m ct))
        have O := Lib.hid ((((OwnGarbled.setFar (show OwnGarbled w4.heap.size wr.heap.size wr (.slice Az k cz) (.slice At m ct) k m (gbZ z0 s a D k) (gbT z0 s a D k) from ⟨OwnA.of_own gr.zer, OwnA.of_own gr.tab, gr.ap⟩) (g := w.heap.size + 1 + 1) (i := 0) e1 (.int .i64 D)).setFar (g := w.heap.size + 1 + 1) (i := 1) e1 (.slice Az k cz)).setFar (g := w.heap.size + 1 + 1) (i := 2) e1 (.slice At m ct)).wide (lo' := w.heap.size) (by omega) (Nat.le_refl _))
        go_wp2_with fail
        refine bodyPost_ret (results_cell_tmp_row (P := Try.prog) rfl _ _ _ (w.heap.size + 1 + 1) 33 _ (0, 0) _ rfl rfl R.out Try.underlying33 rfl (by kernel_rfl)) rfl ?_
        rw [E.out.1, E.out.2.1, E.out.2.2.1, E.out.2.2.2]
        exact ⟨Az, At, k, m, cz, ct, rfl, O.out.wide (Nat.le_refl _) (by simp), L.out⟩
end Go.Proofs.Ytfpcjgolcbjnjaa
