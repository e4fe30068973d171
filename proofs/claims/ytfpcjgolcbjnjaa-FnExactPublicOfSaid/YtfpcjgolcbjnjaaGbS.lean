/- Garble, the model's. No condition. -/
import Derived.Test.YtfpcjgolcbjnjaaProg
import Derived.Test.YtfpcjgolcbjnjaaGbI
import Derived.Test.YtfpcjgolcbjnjaaGbB
import Derived.Test.YtfpcjgolcbjnjaaCirB
import Derived.Test.YtfpcjgolcbjnjaaSGarbled
import Derived.Test.YtfpcjgolcbjnjaaB1
import Derived.BigQuiet
namespace Go.Proofs.Ytfpcjgolcbjnjaa
open Go Go.RowKit
/-- A struct Garbled in new memory, and a bool. -/
def Post_Garbled_bool (x0 : Int) (z1 z2 : List Int) (r : Bool) (w : World) (e : Ending) (w' : World) : Prop :=
  ∃ (A1 A2 : Option Addr) (n1 n2 c1 c2 : Nat), e = .returned (.tuple #[.agg #[.int .i64 x0, .slice A1 n1 c1, .slice A2 n2 c2], .bool r]) ∧ OwnGarbled w.heap.size w'.heap.size w' (.slice A1 n1 c1) (.slice A2 n2 c2) n1 n2 z1 z2 ∧ Below w.heap.size w w'
/-- A gate's cells. -/
theorem gateCells {B n k : Nat} {w : World} {A : Option Addr} {z : List Int} (h : IntsB B w A z) (hl : z.length = n * 3) (hk : k < n) :
    ∃ q o, A = some ⟨q, o, none⟩ ∧ q < B ∧ w.cell? ⟨q, o + k * 3, none⟩ = some (.int .i64 (gk z k)) ∧ w.cell? ⟨q, o + k * 3 + 1, none⟩ = some (.int .i64 (ga z k)) ∧ w.cell? ⟨q, o + k * 3 + 2, none⟩ = some (.int .i64 (gb z k)) := by
  obtain ⟨q, o, e, hb, hc⟩ := h (by omega)
  exact ⟨q, o, e, hb, hc (k * 3) (by omega), hc (k * 3 + 1) (by omega), hc (k * 3 + 2) (by omega)⟩
theorem spec_HashLabel_to (x n r : Int) (h : hshI x n = r) (w : World) :
    Calls Try.prog 70 #[.int .i64 x, .int .i64 n] w fun e w' => e = .returned (.int .i64 r) ∧ w = w' := spec_HashLabel_is x n r h w
theorem spec_l18If_to (b x r : Int) (h : ifI b x = r) (w : World) :
    Calls Try.prog 71 #[.int .i64 b, .int .i64 x] w fun e w' => e = .returned (.int .i64 r) ∧ w = w' := by subst h; exact spec_l18If b x w
/-- Sizes of the tables on the way. -/
theorem gbT_small {z ts : List Int} {s a d : Int} {k n m : Nat} (h : ts.length = m) (e : ts = gbT z s a d k) (hk : k ≤ n) (hn : n ≤ 6000) : m ≤ 12000 := by
  subst e
  rw [gbT_length] at h
  have := cnt_le z 4 k
  omega
set_option maxRecDepth 100000 in
set_option maxHeartbeats 8000000 in
theorem spec_Garble (A0 : Option Addr) (n0 c0 : Nat) (z0 : List Int) (A1 : Option Addr) (n1 c1 : Nat) (z1 : List Int) (s a : Int) (w : World) (h0 : Ints w A0 z0) (l0 : z0.length = n0 * 3) (m0 : n0 ≤ 2000000) (h1 : Ints w A1 z1) (l1 : z1.length = n1) (m1 : n1 ≤ 2000000) :
    Calls Try.prog 23 #[.agg #[.slice A0 n0 c0, .slice A1 n1 c1], .agg #[.int .i64 s, .int .i64 a]] w (Post_Garbled_bool (garD z0 n0 z1 s a) (garZ z0 n0 z1 s a) (garT z0 n0 z1 s a) (decide (garOk z0 n0 z1 s a)) w) := by
  have k0 := Bx3.start w 27 #[.slice A0 n0 c0, .slice A1 n1 c1] 29 #[.int .i64 s, .int .i64 a] 33 #[.int .i64 0, .slice none 0 0, .slice none 0 0]
  have i0 := h0.bound
  have i1 := h1.bound
  have L0 := Lib.hid l0
  have L1 := Lib.hid l1
  clear h0 h1 l0 l1
  have cK := fun r hr W j0 j1 => spec_CircuitOk A0 n0 c0 z0 A1 n1 c1 z1 r hr W j0 L0.out (by omega) j1 L1.out (by omega)
  have cT := spec_canStart s a
  go_enter Try.func23, Try.ntmps23
  go_wp2_with fail
  generalize hw0 : ((w.alloc (.cells #[.slice A0 n0 c0, .slice A1 n1 c1] 27)).alloc (.cells #[.int .i64 s, .int .i64 a] 29)).alloc (.cells #[.int .i64 0, .slice none 0 0, .slice none 0 0] 33) = w0 at *
  clear hw0
  have x0 := (blk (i := 0) k0.two.arg rfl).1
  have x1 := (blk (i := 1) k0.two.arg rfl).1
  have j0 := (i0.below k0.two.low).ints k0.two.low.size
  have j1 := (i1.below k0.two.low).ints k0.two.low.size
  by_cases hc : cirOk z0 n0 z1
  case neg =>
    have hno : ¬ garOk z0 n0 z1 s a := fun h => hc h.1
    have E := Lib.hid (show garD z0 n0 z1 s a = 0 ∧ garZ z0 n0 z1 s a = [] ∧ garT z0 n0 z1 s a = [] ∧ decide (garOk z0 n0 z1 s a) = false from ⟨if_neg hno, if_neg hno, if_neg hno, decide_eq_false hno⟩)
    replace cK := cK false (decide_eq_false hc) w0 j0 j1
    clear hno hc cT
    go_wp2_with fail
    refine cK.mono ?_
    rintro e w1 ⟨rfl, hb1⟩
    have k1 := k0.next hb1
    clear cK k0 x0 x1 j0 j1 hb1 i0 i1
    obtain ⟨r0, f0⟩ := blk (i := 0) k1.out rfl
    obtain ⟨r1, f1⟩ := blk (i := 1) k1.out rfl
    obtain ⟨r2, f2⟩ := blk (i := 2) k1.out rfl
    have R := Lib.hid (heap_set (i := 2) (heap_set (i := 1) (heap_set (i := 0) k1.out (.int .i64 0)) (.slice none 0 0)) (.slice none 0 0))
    have L := Lib.hid (((k1.two.low.setCell (p := ⟨w.heap.size + 1 + 1, 0, none⟩) (by simp; omega) (.int .i64 0)).setCell (p := ⟨w.heap.size + 1 + 1, 1, none⟩) (by simp; omega) (.slice none 0 0)).setCell (p := ⟨w.heap.size + 1 + 1, 2, none⟩) (by simp; omega) (.slice none 0 0))
    go_wp2_with fail
    refine bodyPost_ret (results_cell_tmp_row (P := Try.prog) rfl _ _ _ (w.heap.size + 1 + 1) 33 _ (0, 0) _ rfl rfl R.out Try.underlying33 rfl (by kernel_rfl)) rfl ?_
    rw [E.out.1, E.out.2.1, E.out.2.2.1, E.out.2.2.2]
    exact ⟨none, none, 0, 0, 0, 0, rfl, OwnGarbled.nil _ _ _, L.out⟩
  have n6 : n0 ≤ 6000 := hc.1
  replace cK := cK true (decide_eq_true hc) w0 j0 j1
  by_cases ht : dOk s a
  case neg =>
    have hno : ¬ garOk z0 n0 z1 s a := fun h => ht h.2
    have E := Lib.hid (show garD z0 n0 z1 s a = 0 ∧ garZ z0 n0 z1 s a = [] ∧ garT z0 n0 z1 s a = [] ∧ decide (garOk z0 n0 z1 s a) = false from ⟨if_neg hno, if_neg hno, if_neg hno, decide_eq_false hno⟩)
    replace cT := cT false (decide_eq_false ht)
    clear hno hc ht
    go_wp2_with fail
    refine cK.mono ?_
    rintro e w1 ⟨rfl, hb1⟩
    have k1 := k0.next hb1
    have y0 := (blk (i := 0) k1.two.res rfl).1
    have y1 := (blk (i := 1) k1.two.res rfl).1
    clear cK k0 x0 x1 j0 j1 hb1 i0 i1
    go_wp2_with fail
    refine (cT _).mono ?_
    rintro e w2 ⟨rfl, hb2⟩
    have k2 := k1.next hb2
    clear cT k1 hb2 y0 y1
    obtain ⟨r0, f0⟩ := blk (i := 0) k2.out rfl
    obtain ⟨r1, f1⟩ := blk (i := 1) k2.out rfl
    obtain ⟨r2, f2⟩ := blk (i := 2) k2.out rfl
    have R := Lib.hid (heap_set (i := 2) (heap_set (i := 1) (heap_set (i := 0) k2.out (.int .i64 0)) (.slice none 0 0)) (.slice none 0 0))
    have L := Lib.hid (((k2.two.low.setCell (p := ⟨w.heap.size + 1 + 1, 0, none⟩) (by simp; omega) (.int .i64 0)).setCell (p := ⟨w.heap.size + 1 + 1, 1, none⟩) (by simp; omega) (.slice none 0 0)).setCell (p := ⟨w.heap.size + 1 + 1, 2, none⟩) (by simp; omega) (.slice none 0 0))
    go_wp2_with fail
    refine bodyPost_ret (results_cell_tmp_row (P := Try.prog) rfl _ _ _ (w.heap.size + 1 + 1) 33 _ (0, 0) _ rfl rfl R.out Try.underlying33 rfl (by kernel_rfl)) rfl ?_
    rw [E.out.1, E.out.2.1, E.out.2.2.1, E.out.2.2.2]
    exact ⟨none, none, 0, 0, 0, 0, rfl, OwnGarbled.nil _ _ _, L.out⟩
  have hg : garOk z0 n0 z1 s a := ⟨hc, ht⟩
  obtain ⟨d0, -⟩ := dlt_lbl ht
  have cD := spec_DeltaOf s a
  have HT := Lib.hid (And.intro ht.1 hc.2.1)
  have E := Lib.hid (show garD z0 n0 z1 s a = dltI s a ∧ garZ z0 n0 z1 s a = gbZ z0 s a (dltI s a) n0 ∧ garT z0 n0 z1 s a = gbT z0 s a (dltI s a) n0 ∧ decide (garOk z0 n0 z1 s a) = true from ⟨if_pos hg, if_pos hg, if_pos hg, decide_eq_true hg⟩)
  have HZ := Lib.hid (gbZ_lbl hc.2.1 n6 ht d0)
  replace cT := cT true (decide_eq_true ht)
  generalize dltI s a = D at *
  generalize dltA s a = D2 at *
  clear hc ht hg
  go_wp2_with fail
  refine cK.mono ?_
  rintro e w1 ⟨rfl, hb1⟩
  have k1 := k0.next hb1
  have y0 := (blk (i := 0) k1.two.res rfl).1
  have y1 := (blk (i := 1) k1.two.res rfl).1
  clear cK k0 x0 x1 j0 j1 hb1
  go_wp2_with fail
  refine (cT _).mono ?_
  rintro e w2 ⟨rfl, hb2⟩
  have k2 := k1.next hb2
  clear cT k1 hb2 y0 y1
  have y0 := (blk (i := 0) k2.two.res rfl).1
  have y1 := (blk (i := 1) k2.two.res rfl).1
  have al := below_alloc w2 (.cells #[.int .i64 0, .slice none 0 0, .slice none 0 0] 33)
  have bg := heap_alloc_new w2 (.cells #[.int .i64 0, .slice none 0 0, .slice none 0 0] 33)
  have y0' := cell_on y0 al
  have y1' := cell_on y1 al
  go_wp2_with fail
  refine (cD _).mono ?_
  rintro e w3 ⟨rfl, hb3⟩
  have al3 := al.trans (hb3.mono al.size)
  have bg3 := heap_below bg hb3
  have ac := below_alloc w3 (.cells #[.int .i64 s, .int .i64 D2] 29)
  have bg4 := heap_below bg3 ac
  have al4 := al3.trans (ac.mono al3.size)
  clear cD bg bg3 al hb3 al3 ac y0 y1 y0' y1'
  go_upto_region 5 with (fail)
  generalize hw4 : w3.alloc (.cells #[.int .i64 s, .int .i64 D2] 29) = w4 at *
  clear hw4
  obtain ⟨u0, f0⟩ := blk (i := 0) bg4 rfl
  have bg5 := heap_set (i := 0) bg4 (.int .i64 D)
  have S0 : Gb w2.heap.size w2.heap.size w2 (w4.setCell ⟨w2.heap.size, 0, none⟩ (.int .i64 D)) [] 33 D (.slice none 0 0) (.slice none 0 0) 0 0 [] [] :=
    ⟨bg5, World.ownsRow_nil _ _ _ _, World.ownsRow_nil _ _ _ _, by simp [Value.ownBlock], by simp [Value.ownBlock], apart.nil _ _ _, Nat.le_refl _, al4.setCell (p := ⟨w2.heap.size, 0, none⟩) (Nat.le_refl _) _, by simpa using al4.size⟩
  have HS := Lib.hid S0
  have K2 := Lib.hid k2
  clear S0 bg4 bg5 al4 k2
  go_wp2_with fail
  go_loopw [9] (fun i wr => ∃ (k m : Nat) (vz vt : Value), k ≤ n0 ∧ i = .int .i64 k ∧ Gb w2.heap.size w2.heap.size w2 wr [] 33 D vz vt k m (gbZ z0 s a D k) (gbT z0 s a D k)) (fun i _ => n0 - (intOf i).toNat)
  case atStart => exact ⟨0, 0, _, _, Nat.zero_le _, rfl, HS.out⟩
  case round =>
    clear HS u0 f0
    obtain ⟨k, m, vz, vt, hk, rfl, gr⟩ := hrel
    have kr := K2.out.next gr.low
    have x0 := (blk (i := 0) kr.two.arg rfl).1
    have x1 := (blk (i := 1) kr.two.arg rfl).1
    by_cases hlt : k < n0
    · have k0' : (0 : Int) ≤ k := by omega
      have k1' : (k : Int) < n0 := by omega
      have m12 := gbT_small gr.tlen rfl hk n6
      obtain ⟨q, o, rfl, hq, e0, e1, e2⟩ := gateCells (i0.below kr.two.low) L0.out hlt
      have t0 := (blk (i := 0) kr.two.res rfl).1
      have t1 := (blk (i := 1) kr.two.res rfl).1
      obtain ⟨Az, cz, rfl⟩ := gr.zform
      obtain ⟨At, ct, rfl⟩ := gr.tform
      have ok := HT.out.2 k hlt
      have lz := gr.zlen
      have Hz : Hid (gbZ z0 s a D (k + 1) = gbZ z0 s a D k ++ [zro s a D (gbZ z0 s a D k) k (gk z0 k) (ga z0 k) (gb z0 k)]) := Lib.hid rfl
      have Ht : Hid (gbT z0 s a D (k + 1) = gbT z0 s a D k ++ tbl D (gbZ z0 s a D k) k (gk z0 k) (ga z0 k) (gb z0 k)) := Lib.hid rfl
      have Hl := Lib.hid (HZ.out k hk)
      generalize gbZ z0 s a D k = ZZ at *
      generalize gbT z0 s a D k = TT at *
      generalize gk z0 k = kd at *
      generalize ga z0 k = ka at *
      generalize gb z0 k = kb at *
      have gg := gr.alloc (.cells #[.int .i64 kd, .int .i64 ka, .int .i64 kb] 86)
      have al := below_alloc wr (.cells #[.int .i64 kd, .int .i64 ka, .int .i64 kb] 86)
      rcases ok with ⟨rfl, p1, rfl⟩ | ⟨rfl, p1, rfl⟩ | ⟨rfl | rfl, p1, p2⟩ | ⟨rfl, p1, rfl⟩
      · have eZ : Hid (gbZ z0 s a D (k + 1) = ZZ ++ [izI s a ka]) := Lib.hid (Hz.out.trans (by rw [zro, if_pos rfl]))
        have eT : Hid (gbT z0 s a D (k + 1) = TT) := Lib.hid (Ht.out.trans (by rw [tbl, if_neg (by omega), List.append_nil]))
        clear Hz Ht Hl
        have t0' := cell_on t0 al
        have t1' := cell_on t1 al
        go_wp2_with fail
        refine (spec_InputZero s a ka _).mono ?_
        rintro e w6 ⟨rfl, hb6⟩
        have g6 := gg.below hb6
        generalize izI s a ka = X at *
        clear hb6 gg gr e0 e1 e2 t0 t1 t0' t1' x0 x1
        obtain ⟨v06, vf06⟩ := g6.cell (i := 0) rfl
        obtain ⟨v16, vf16⟩ := g6.cell (i := 1) rfl
        obtain ⟨v26, vf26⟩ := g6.cell (i := 2) rfl
        have h9 := g6.alloc (.cells #[.int .i64 (X)] 3)
        go_wp2_with (first | (at_builtin; refine app_list (e' := 3) elemInt rfl _ _ rfl w2.heap.size _ k (intVals ZZ) rfl h9.zer w6.heap.size 1 1 _ (0, 0) rfl (heap_alloc_new w6 _) rfl (oneCell_i64 [_]) (by omega) (by unfold maxLen; omega) (by omega) h9.size (w6.heap.size + 1) (by simp) ?_))
        intro g5 c5 w5 ho5 hg5 hat5 _
        obtain ⟨b5, bf5⟩ := blk (i := 1) (heap_grown h9.box hg5 h9.nz) rfl
        have H := Lib.hid (h9.putZ (x := X) ho5 hg5 hat5 (by simp))
        clear h9 ho5 hg5 hat5
        go_wp2_with fail
        go_roundw
        case rel => exact ⟨k + 1, m, _, _, by omega, by go_num, by rw [eZ.out, eT.out]; exact H.out⟩
        case measure => simp [intOf]; omega
      · have eZ : Hid (gbZ z0 s a D (k + 1) = ZZ ++ [izI s a (1000 + k)]) := Lib.hid (Hz.out.trans (by rw [zro, if_neg (by omega), if_pos rfl]))
        have eT : Hid (gbT z0 s a D (k + 1) = TT) := Lib.hid (Ht.out.trans (by rw [tbl, if_neg (by omega), List.append_nil]))
        clear Hz Ht Hl
        have t0' := cell_on t0 al
        have t1' := cell_on t1 al
        go_wp2_with fail
        refine (spec_InputZero s a (1000 + k) _).mono ?_
        rintro e w6 ⟨rfl, hb6⟩
        have g6 := gg.below hb6
        generalize izI s a (1000 + k) = X at *
        clear hb6 gg gr e0 e1 e2 t0 t1 t0' t1' x0 x1
        obtain ⟨v06, vf06⟩ := g6.cell (i := 0) rfl
        obtain ⟨v16, vf16⟩ := g6.cell (i := 1) rfl
        obtain ⟨v26, vf26⟩ := g6.cell (i := 2) rfl
        have h9 := g6.alloc (.cells #[.int .i64 (X)] 3)
        go_wp2_with (first | (at_builtin; refine app_list (e' := 3) elemInt rfl _ _ rfl w2.heap.size _ k (intVals ZZ) rfl h9.zer w6.heap.size 1 1 _ (0, 0) rfl (heap_alloc_new w6 _) rfl (oneCell_i64 [_]) (by omega) (by unfold maxLen; omega) (by omega) h9.size (w6.heap.size + 1) (by simp) ?_))
        intro g5 c5 w5 ho5 hg5 hat5 _
        obtain ⟨b5, bf5⟩ := blk (i := 1) (heap_grown h9.box hg5 h9.nz) rfl
        have H := Lib.hid (h9.putZ (x := X) ho5 hg5 hat5 (by simp))
        clear h9 ho5 hg5 hat5
        go_wp2_with fail
        go_roundw
        case rel => exact ⟨k + 1, m, _, _, by omega, by go_num, by rw [eZ.out, eT.out]; exact H.out⟩
        case measure => simp [intOf]; omega
      · have hx := Hl.out ka.toNat (by omega)
        have hy := Hl.out kb.toNat (by omega)
        have eZ : Hid (gbZ z0 s a D (k + 1) = ZZ ++ [bits .xor .i64 (ZZ.getD ka.toNat 0) (ZZ.getD kb.toNat 0)]) := Lib.hid (Hz.out.trans (by rw [zro, if_neg (by omega), if_neg (by omega), if_pos rfl, lx_bits hx hy]))
        have eT : Hid (gbT z0 s a D (k + 1) = TT) := Lib.hid (Ht.out.trans (by rw [tbl, if_neg (by omega), List.append_nil]))
        obtain ⟨bz, oz, rfl, -, q1⟩ := gg.zints.at_ (j := ka.toNat) (by rw [lz]; omega)
        obtain ⟨_, _, e9, -, q2⟩ := gg.zints.at_ (j := kb.toNat) (by rw [lz]; omega)
        injection e9 with e9; injection e9 with e11 e12; subst e11 e12
        clear Hz Ht Hl hx hy lz
        generalize ZZ.getD ka.toNat 0 = x at *
        generalize ZZ.getD kb.toNat 0 = y at *
        obtain ⟨v0, vf0⟩ := gg.cell (i := 0) rfl
        obtain ⟨v1, vf1⟩ := gg.cell (i := 1) rfl
        obtain ⟨v2, vf2⟩ := gg.cell (i := 2) rfl
        go_upto_region 10 with (fail)
        clear gr e0 e1 e2 t0 t1 x0 x1
        have gx := heap_alloc_new wr (.cells #[.int .i64 3, .int .i64 ka, .int .i64 kb] 86)
        obtain ⟨h0', _⟩ := blk (i := 0) gx rfl
        obtain ⟨h1', _⟩ := blk (i := 1) gx rfl
        obtain ⟨h2', _⟩ := blk (i := 2) gx rfl
        go_wp2_with fail
        go_quiet (fail)
        have g6 := gg.drewN nq
        clear gx h0' h1' h2' q1 q2 v0 v1 v2 vf0 vf1 vf2 gg al
        generalize hw6 : (wr.alloc (.cells #[.int .i64 3, .int .i64 ka, .int .i64 kb] 86)).drewN nq = w6 at *
        clear hw6
        obtain ⟨v06, vf06⟩ := g6.cell (i := 0) rfl
        obtain ⟨v16, vf16⟩ := g6.cell (i := 1) rfl
        obtain ⟨v26, vf26⟩ := g6.cell (i := 2) rfl
        have h9 := g6.alloc (.cells #[.int .i64 (bits .xor .i64 x y)] 3)
        go_wp2_with (first | (at_builtin; refine app_list (e' := 3) elemInt rfl _ _ rfl w2.heap.size _ k (intVals ZZ) rfl h9.zer w6.heap.size 1 1 _ (0, 0) rfl (heap_alloc_new w6 _) rfl (oneCell_i64 [_]) (by omega) (by unfold maxLen; omega) (by omega) h9.size (w6.heap.size + 1) (by simp) ?_))
        intro g5 c5 w5 ho5 hg5 hat5 _
        obtain ⟨b5, bf5⟩ := blk (i := 1) (heap_grown h9.box hg5 h9.nz) rfl
        have H := Lib.hid (h9.putZ (x := bits .xor .i64 x y) ho5 hg5 hat5 (by simp))
        clear h9 ho5 hg5 hat5
        go_wp2_with fail
        go_roundw
        case rel => exact ⟨k + 1, m, _, _, by omega, by go_num, by rw [eZ.out, eT.out]; exact H.out⟩
        case measure => simp [intOf]; omega
      · have hx := Hl.out ka.toNat (by omega)
        have hy := Hl.out kb.toNat (by omega)
        obtain ⟨bz, oz, rfl, -, q1⟩ := gg.zints.at_ (j := ka.toNat) (by rw [lz]; omega)
        obtain ⟨_, _, e9, -, q2⟩ := gg.zints.at_ (j := kb.toNat) (by rw [lz]; omega)
        injection e9 with e9; injection e9 with e11 e12; subst e11 e12
        have eT0 : gbT z0 s a D (k + 1) = TT ++ [tgI D k (ZZ.getD ka.toNat 0) (ZZ.getD kb.toNat 0), teI D k (ZZ.getD ka.toNat 0) (ZZ.getD kb.toNat 0)] := Ht.out.trans (by rw [tbl, if_pos rfl])
        have eZ0 : gbZ z0 s a D (k + 1) = ZZ ++ [evA k (ZZ.getD ka.toNat 0) (ZZ.getD kb.toNat 0) (tgI D k (ZZ.getD ka.toNat 0) (ZZ.getD kb.toNat 0)) (teI D k (ZZ.getD ka.toNat 0) (ZZ.getD kb.toNat 0))] := Hz.out.trans (by rw [zro, if_neg (by omega), if_neg (by omega), if_neg (by omega), if_neg (by omega)])
        clear Hz Ht Hl lz
        generalize ZZ.getD ka.toNat 0 = x at *
        generalize ZZ.getD kb.toNat 0 = y at *
        have k6 : k ≤ 6000 := by omega
        rw [ev_bits k6 hx hy (tg_lbl (by omega) hx d0) (te_lbl (by omega) hx hy d0), tg_bits k6 hx d0, te_bits k6 hx hy d0] at eZ0
        rw [tg_bits k6 hx d0, te_bits k6 hx hy d0] at eT0
        obtain ⟨h0, H0⟩ : ∃ h, hshI x (2 * (k : Int)) = h := ⟨_, rfl⟩
        obtain ⟨h1, H1⟩ : ∃ h, hshI (bits .xor .i64 x D) (2 * (k : Int)) = h := ⟨_, rfl⟩
        obtain ⟨h2, H2⟩ : ∃ h, hshI y (2 * (k : Int) + 1) = h := ⟨_, rfl⟩
        obtain ⟨h3, H3⟩ : ∃ h, hshI (bits .xor .i64 y D) (2 * (k : Int) + 1) = h := ⟨_, rfl⟩
        obtain ⟨f1, F1⟩ : ∃ h, ifI (y % 2) D = h := ⟨_, rfl⟩
        rw [H0, H1, H2, H3, F1] at eZ0 eT0
        obtain ⟨TG, hTG⟩ : ∃ t, bits .xor .i64 (bits .xor .i64 h0 h1) f1 = t := ⟨_, rfl⟩
        obtain ⟨TE, hTE⟩ : ∃ t, bits .xor .i64 (bits .xor .i64 h2 h3) x = t := ⟨_, rfl⟩
        rw [hTG, hTE] at eZ0
        rw [hTG, hTE] at eT0
        obtain ⟨f2, F2⟩ : ∃ h, ifI (x % 2) TG = h := ⟨_, rfl⟩
        obtain ⟨f3, F3⟩ : ∃ h, ifI (y % 2) (bits .xor .i64 TE x) = h := ⟨_, rfl⟩
        rw [F2, F3] at eZ0
        obtain ⟨EV, hEV⟩ : ∃ t, bits .xor .i64 (bits .xor .i64 (bits .xor .i64 h0 h2) f2) f3 = t := ⟨_, rfl⟩
        rw [hEV] at eZ0
        have eZ := Lib.hid eZ0
        have eT := Lib.hid eT0
        have G0 := spec_HashLabel_to x (2 * (k : Int)) h0 H0
        have G1 := spec_HashLabel_to (bits .xor .i64 x D) (2 * (k : Int)) h1 H1
        have G2 := spec_HashLabel_to y (2 * (k : Int) + 1) h2 H2
        have G3 := spec_HashLabel_to (bits .xor .i64 y D) (2 * (k : Int) + 1) h3 H3
        have J1 := spec_l18If_to (bits .and .i64 y 1) D f1 (by rw [i64_and_one]; exact F1)
        have J2 := spec_l18If_to (bits .and .i64 x 1) TG f2 (by rw [i64_and_one]; exact F2)
        have J3 := spec_l18If_to (bits .and .i64 y 1) (bits .xor .i64 TE x) f3 (by rw [i64_and_one]; exact F3)
        clear eZ0 eT0 H0 H1 H2 H3 F1 F2 F3 hx hy k6
        obtain ⟨v0, vf0⟩ := gg.cell (i := 0) rfl
        obtain ⟨v1, vf1⟩ := gg.cell (i := 1) rfl
        obtain ⟨v2, vf2⟩ := gg.cell (i := 2) rfl
        go_upto_region 21 with (fail)
        clear gr e0 e1 e2 t0 t1 x0 x1
        have gx := heap_alloc_new wr (.cells #[.int .i64 4, .int .i64 ka, .int .i64 kb] 86)
        obtain ⟨h0', _⟩ := blk (i := 0) gx rfl
        obtain ⟨h1', _⟩ := blk (i := 1) gx rfl
        obtain ⟨h2', _⟩ := blk (i := 2) gx rfl
        generalize hwx : wr.alloc (.cells #[.int .i64 4, .int .i64 ka, .int .i64 kb] 86) = wx at *
        clear hwx gx
        go_wp2_with fail
        refine (G0 _).mono ?_
        rintro e w6 ⟨rfl, rfl⟩
        go_wp2_with fail
        refine (G1 _).mono ?_
        rintro e w6 ⟨rfl, rfl⟩
        go_wp2_with fail
        refine (J1 _).mono ?_
        rintro e w6 ⟨rfl, rfl⟩
        go_wp2_with fail
        refine (G2 _).mono ?_
        rintro e w6 ⟨rfl, rfl⟩
        go_wp2_with fail
        refine (G3 _).mono ?_
        rintro e w6 ⟨rfl, rfl⟩
        have h8 := gg.alloc (.cells #[.int .i64 TG, .int .i64 TE] 3)
        go_wp2_with (first | (at_builtin; refine app_list (e' := 3) elemInt rfl _ _ rfl w2.heap.size _ m (intVals TT) rfl h8.tab wx.heap.size 2 2 _ (0, 0) rfl (heap_alloc_new wx _) rfl (oneCell_i64 [_, _]) (by omega) (by unfold maxLen; omega) (by omega) h8.size (wx.heap.size + 1) (by simp) ?_))
        intro g7 c7 w7 ho7 hg7 hat7 _
        obtain ⟨b7, bf7⟩ := blk (i := 2) (heap_grown h8.box hg7 h8.nt) rfl
        have g8 : Gb w2.heap.size w2.heap.size w2 (w7.setCell ⟨w2.heap.size, 2, none⟩ (.slice (some ⟨g7, 0, none⟩) (m + 2) c7)) [] 33 D (.slice (some ⟨bz, oz, none⟩) k cz) (.slice (some ⟨g7, 0, none⟩) (m + 2) c7) k (m + 2) ZZ (TT ++ [TG, TE]) := h8.putT ho7 hg7 hat7 (by simp)
        clear h8 ho7 hg7 hat7 gg h0' h1' h2' v0 v1 v2 vf0 vf1 vf2 q1 q2
        go_upto_region 26 with (fail)
        generalize hw8 : w7.setCell ⟨w2.heap.size, 2, none⟩ (.slice (some ⟨g7, 0, none⟩) (m + 2) c7) = w8 at *
        clear hw8 b7 bf7
        go_wp2_with fail
        refine (G0 _).mono ?_
        rintro e w6 ⟨rfl, rfl⟩
        go_wp2_with fail
        refine (G2 _).mono ?_
        rintro e w6 ⟨rfl, rfl⟩
        go_wp2_with fail
        refine (J2 _).mono ?_
        rintro e w6 ⟨rfl, rfl⟩
        go_wp2_with fail
        refine (J3 _).mono ?_
        rintro e w6 ⟨rfl, rfl⟩
        obtain ⟨v0, vf0⟩ := g8.cell (i := 0) rfl
        obtain ⟨v1, vf1⟩ := g8.cell (i := 1) rfl
        obtain ⟨v2, vf2⟩ := g8.cell (i := 2) rfl
        have h9 := g8.alloc (.cells #[.int .i64 (EV)] 3)
        go_wp2_with (first | (at_builtin; refine app_list (e' := 3) elemInt rfl _ _ rfl w2.heap.size _ k (intVals ZZ) rfl h9.zer w8.heap.size 1 1 _ (0, 0) rfl (heap_alloc_new w8 _) rfl (oneCell_i64 [_]) (by omega) (by unfold maxLen; omega) (by omega) h9.size (w8.heap.size + 1) (by simp) ?_))
        intro g5 c5 w5 ho5 hg5 hat5 _
        obtain ⟨b5, bf5⟩ := blk (i := 1) (heap_grown h9.box hg5 h9.nz) rfl
        have H := Lib.hid (h9.putZ (x := EV) ho5 hg5 hat5 (by simp))
        clear h9 ho5 hg5 hat5
        go_wp2_with fail
        go_roundw
        case rel => exact ⟨k + 1, m + 2, _, _, by omega, by go_num, by rw [eZ.out, eT.out]; exact H.out⟩
        case measure => simp [intOf]; omega
      · have hx := Hl.out ka.toNat (by omega)
        have eZ : Hid (gbZ z0 s a D (k + 1) = ZZ ++ [bits .xor .i64 (ZZ.getD ka.toNat 0) D]) := Lib.hid (Hz.out.trans (by rw [zro, if_neg (by omega), if_neg (by omega), if_neg (by omega), if_pos rfl, lx_bits hx d0]))
        have eT : Hid (gbT z0 s a D (k + 1) = TT) := Lib.hid (Ht.out.trans (by rw [tbl, if_neg (by omega), List.append_nil]))
        obtain ⟨bz, oz, rfl, -, q1⟩ := gg.zints.at_ (j := ka.toNat) (by rw [lz]; omega)
        clear Hz Ht Hl hx lz
        generalize ZZ.getD ka.toNat 0 = x at *
        obtain ⟨v0, vf0⟩ := gg.cell (i := 0) rfl
        obtain ⟨v1, vf1⟩ := gg.cell (i := 1) rfl
        obtain ⟨v2, vf2⟩ := gg.cell (i := 2) rfl
        go_upto_region 19 with (fail)
        clear gr e0 e1 e2 t0 t1 x0 x1
        have gx := heap_alloc_new wr (.cells #[.int .i64 5, .int .i64 ka, .int .i64 0] 86)
        obtain ⟨h0', _⟩ := blk (i := 0) gx rfl
        obtain ⟨h1', _⟩ := blk (i := 1) gx rfl
        obtain ⟨h2', _⟩ := blk (i := 2) gx rfl
        generalize hwx : wr.alloc (.cells #[.int .i64 5, .int .i64 ka, .int .i64 0] 86) = wx at *
        clear hwx gx
        have h9 := gg.alloc (.cells #[.int .i64 (bits .xor .i64 x D)] 3)
        go_wp2_with (first | (at_builtin; refine app_list (e' := 3) elemInt rfl _ _ rfl w2.heap.size _ k (intVals ZZ) rfl h9.zer wx.heap.size 1 1 _ (0, 0) rfl (heap_alloc_new wx _) rfl (oneCell_i64 [_]) (by omega) (by unfold maxLen; omega) (by omega) h9.size (wx.heap.size + 1) (by simp) ?_))
        intro g5 c5 w5 ho5 hg5 hat5 _
        obtain ⟨b5, bf5⟩ := blk (i := 1) (heap_grown h9.box hg5 h9.nz) rfl
        have H := Lib.hid (h9.putZ (x := bits .xor .i64 x D) ho5 hg5 hat5 (by simp))
        clear h9 ho5 hg5 hat5
        go_wp2_with fail
        go_roundw
        case rel => exact ⟨k + 1, m, _, _, by omega, by go_num, by rw [eZ.out, eT.out]; exact H.out⟩
        case measure => simp [intOf]; omega
    · obtain rfl : k = n0 := by omega
      obtain ⟨Az, cz, rfl⟩ := gr.zform
      obtain ⟨At, ct, rfl⟩ := gr.tform
      have sz := kr.lt
      have sg := gr.size
      have e1 := K2.out.lt
      obtain ⟨v0, vf0⟩ := gr.cell (i := 0) rfl
      obtain ⟨v1, vf1⟩ := gr.cell (i := 1) rfl
      obtain ⟨v2, vf2⟩ := gr.cell (i := 2) rfl
      obtain ⟨r0, f0⟩ := blk (i := 0) kr.out rfl
      obtain ⟨r1, f1⟩ := blk (i := 1) kr.out rfl
      obtain ⟨r2, f2⟩ := blk (i := 2) kr.out rfl
      have R := Lib.hid (heap_set (i := 2) (heap_set (i := 1) (heap_set (i := 0) kr.out (.int .i64 D)) (.slice Az k cz)) (.slice At m ct))
      have L := Lib.hid (((kr.two.low.setCell (p := ⟨w.heap.size + 1 + 1, 0, none⟩) (by simp; omega) (.int .i64 D)).setCell (p := ⟨w.heap.size + 1 + 1, 1, none⟩) (by simp; omega) (.slice Az k cz)).setCell (p := ⟨w.heap.size + 1 + 1, 2, none⟩) (by simp; omega) (.slice At m ct))
      have O := Lib.hid ((((OwnGarbled.setFar (show OwnGarbled w2.heap.size wr.heap.size wr (.slice Az k cz) (.slice At m ct) k m (gbZ z0 s a D k) (gbT z0 s a D k) from ⟨OwnA.of_own gr.zer, OwnA.of_own gr.tab, gr.ap⟩) (g := w.heap.size + 1 + 1) (i := 0) e1 (.int .i64 D)).setFar (g := w.heap.size + 1 + 1) (i := 1) e1 (.slice Az k cz)).setFar (g := w.heap.size + 1 + 1) (i := 2) e1 (.slice At m ct)).wide (lo' := w.heap.size) (by omega) (Nat.le_refl _))
      go_wp2_with fail
      refine bodyPost_ret (results_cell_tmp_row (P := Try.prog) rfl _ _ _ (w.heap.size + 1 + 1) 33 _ (0, 0) _ rfl rfl R.out Try.underlying33 rfl (by kernel_rfl)) rfl ?_
      rw [E.out.1, E.out.2.1, E.out.2.2.1, E.out.2.2.2]
      exact ⟨Az, At, k, m, cz, ct, rfl, O.out.wide (Nat.le_refl _) (by simp), L.out⟩
end Go.Proofs.Ytfpcjgolcbjnjaa
