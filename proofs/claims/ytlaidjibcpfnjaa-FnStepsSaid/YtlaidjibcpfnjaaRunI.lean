/- StepState: the program's. No condition. -/
import Derived.Test.YtlaidjibcpfnjaaProg
import Derived.Test.YtlaidjibcpfnjaaRunG
import Derived.WalkSpells
import Derived.Deep.CutBlock
namespace Go.Proofs.Ytlaidjibcpfnjaa
open Go Go.RowKit

set_option maxRecDepth 100000 in
set_option maxHeartbeats 8000000 in
theorem impl_StepState (A0 A1 A2 : Option Addr) (c0 c1 n0 n1 n2 c2 : Nat) (rs os : List Int) (I : List (List Int)) (op d a b c n : Int) (w : World) (h0 : Ints w A0 rs) (l0 : rs.length = n0) (m0 : n0 ≤ 1999999) (h1 : Ints w A1 os) (l1 : os.length = n1) (m1 : n1 ≤ 1999999) (h2 : Rows w.heap.size w A2 I) (l2 : I.length = n2) (m2 : n2 ≤ 1999999) :
    Calls Try.prog 22 #[.agg #[.slice A0 n0 c0, .slice A1 n1 c1], .agg #[.int .i64 op, .int .i64 d, .int .i64 a, .int .i64 b, .int .i64 c, .int .i64 n], .slice A2 n2 c2] w (Post_State (stepR rs os I op d a b c n) (stepO rs os I op d a b c n) w) := by
  have k0 := Bx3S.start w #[.slice A0 n0 c0, .slice A1 n1 c1] #[.int .i64 op, .int .i64 d, .int .i64 a, .int .i64 b, .int .i64 c, .int .i64 n] #[.slice none 0 0, .slice none 0 0]
  have L0 := Lib.hid l0
  have L1 := Lib.hid l1
  have L2 := Lib.hid l2
  have M0 := Lib.hid m0
  have M1 := Lib.hid m1
  have M2 := Lib.hid m2
  have i0 := h0.bound
  have i1 := h1.bound
  clear l0 l1 l2 h0 h1 m0 m1 m2
  go_enter Try.func22, Try.ntmps22
  go_wp2_with fail
  generalize hw0 : ((w.alloc (.cells #[.slice A0 n0 c0, .slice A1 n1 c1] 38)).alloc (.cells #[.int .i64 op, .int .i64 d, .int .i64 a, .int .i64 b, .int .i64 c, .int .i64 n] 42)).alloc (.cells #[.slice none 0 0, .slice none 0 0] 38) = w0 at *
  clear hw0
  go_cut [7] (fun p wx => ∃ (g : Nat) (B0 B1 : Option Addr) (d0 d1 : Nat), p = .pointer (some ⟨g, 0, none⟩) ∧ Aft w0 wx g (.slice B0 n0 d0) (.slice B1 n1 d1) n0 n1 rs os)
  case first =>
    obtain ⟨x0, _⟩ := blk (i := 0) k0.f rfl
    obtain ⟨x1, _⟩ := blk (i := 1) k0.f rfl
    have j0 := (i0.below k0.low).ints k0.low.size
    have j1 := (i1.below k0.low).ints k0.low.size
    have bal := below_alloc w0 (.cells #[.slice none 0 0, .slice none 0 0] 38)
    have new0 : (w0.alloc (.cells #[.slice none 0 0, .slice none 0 0] 38)).drew.heap[w0.heap.size]? = some (.cells #[.slice none 0 0, .slice none 0 0] 38 (0, 0)) := heap_alloc_new w0 _
    have rfl0 : Below w0.heap.size w0 w0.drew := (Below.refl w0.heap.size w0).drew
    have m0 : n0 ≤ 2000000 := by have := M0.out; omega
    have m1 : n1 ≤ 2000000 := by have := M1.out; omega
    have hs0 := k0.lt
    have a0 := cell_on x0 bal
    have a1 := cell_on x1 bal
    have bald := bal.drew
    clear k0 i0 i1 h2 M0 M1 M2 L2
    go_region_held3 (fun w' => w'.cell? ⟨w.heap.size, 0, none⟩ = some (.slice A0 n0 c0) ∧ w'.cell? ⟨w.heap.size, 1, none⟩ = some (.slice A1 n1 c1) ∧ Below w0.heap.size w0 w' ∧ w0.heap.size ≤ w'.heap.size) ((repeat' apply And.intro) <;> first | assumption | (refine set_lows ?_ ?_ _ _ <;> first | assumption | omega) | (refine far_two ?_ ?_ _ _ <;> first | assumption | (dsimp only; omega)) | (go_keep; done) | (go_grown; done) | (go_size; done) | (simp; omega)) (first
      | (go_at_call 64; (with_reducible refine (CloneI_keep A0 n0 c0 rs w0 _ j0 L0.out m0 ⟨w.heap.size, 0, none⟩ ⟨w.heap.size, 1, none⟩ (.slice A0 n0 c0) (.slice A1 n1 c1) ?_ ?_ ?_).mono ?_); assumption; assumption; assumption; rintro e w1 ⟨B0, d0, rfl, o0, hk1, hk2, hk3, hk4, hb0⟩; (have hq1 := cell_on hk1 (below_alloc w1 (.cells #[.slice none 0 0, .slice none 0 0] 38))); (have hq2 := cell_on hk2 (below_alloc w1 (.cells #[.slice none 0 0, .slice none 0 0] 38))); (have hq3 := hk3.alloc hk4 (.cells #[.slice none 0 0, .slice none 0 0] 38)); (first | ((have hx := heap_below new0 hb0); (obtain ⟨z0, y0⟩ := blk (i := 0) hx rfl); (obtain ⟨z1, y1⟩ := blk (i := 1) hx rfl)) | ((have hx := heap_below hx hb0); (obtain ⟨z0, y0⟩ := blk (i := 0) hx rfl); (obtain ⟨z1, y1⟩ := blk (i := 1) hx rfl)) | ((have hx := heap_below (heap_alloc_new w2 (.cells #[.slice none 0 0, .slice none 0 0] 38)) hb0); (obtain ⟨z0, y0⟩ := blk (i := 0) hx rfl); (obtain ⟨z1, y1⟩ := blk (i := 1) hx rfl)) | skip))
      | (go_at_call 64; (with_reducible refine (CloneI_keep A1 n1 c1 os w0 _ j1 L1.out m1 ⟨w.heap.size, 0, none⟩ ⟨w.heap.size, 1, none⟩ (.slice A0 n0 c0) (.slice A1 n1 c1) ?_ ?_ ?_).mono ?_); assumption; assumption; assumption; rintro e w2 ⟨B1, d1, rfl, o1, hk1, hk2, hk3, hk4, hb1⟩; (have hq1 := cell_on hk1 (below_alloc w2 (.cells #[.slice none 0 0, .slice none 0 0] 38))); (have hq2 := cell_on hk2 (below_alloc w2 (.cells #[.slice none 0 0, .slice none 0 0] 38))); (have hq3 := hk3.alloc hk4 (.cells #[.slice none 0 0, .slice none 0 0] 38)); (first | ((have hx := heap_below new0 hb1); (obtain ⟨z0, y0⟩ := blk (i := 0) hx rfl); (obtain ⟨z1, y1⟩ := blk (i := 1) hx rfl)) | ((have hx := heap_below hx hb1); (obtain ⟨z0, y0⟩ := blk (i := 0) hx rfl); (obtain ⟨z1, y1⟩ := blk (i := 1) hx rfl)) | ((have hx := heap_below (heap_alloc_new w1 (.cells #[.slice none 0 0, .slice none 0 0] 38)) hb1); (obtain ⟨z0, y0⟩ := blk (i := 0) hx rfl); (obtain ⟨z1, y1⟩ := blk (i := 1) hx rfl)) | skip)))
    all_goals
      have t0 := hb0.size
      have t1 := hb1.size
      go_wp2_with fail
      go_meet
      first
        | exact ⟨_, _, _, _, _, rfl, Aft.last hk3 (o0.below hb1) o1 (Nat.le_refl _) (by simp at t0 t1 ⊢; omega) (by simp at t0 t1 ⊢; omega) (by simp at t0 t1 ⊢) (o0.apart_of o1 (Nat.le_refl _))⟩
        | exact ⟨_, _, _, _, _, rfl, Aft.last hk3 o0 (o1.below hb0) (by simp at t0 t1 ⊢; omega) (Nat.le_refl _) (by simp at t0 t1 ⊢) (by simp at t0 t1 ⊢; omega) (o1.apart_of o0 (Nat.le_refl _)).symm⟩
        | exact ⟨_, _, _, _, _, rfl, Aft.early hk3 hx (Nat.le_refl _) (o0.below hb1) o1 (by simp at t0 t1 ⊢) (by simp at t0 t1 ⊢; omega) (by simp at t0 t1 ⊢; omega) (by simp at t0 t1 ⊢) (o0.apart_of o1 (Nat.le_refl _)) (.inl (by simp at t0 t1 ⊢)) (.inl (by simp at t0 t1 ⊢; omega))⟩
        | exact ⟨_, _, _, _, _, rfl, Aft.early hk3 hx (Nat.le_refl _) o0 (o1.below hb0) (by simp at t0 t1 ⊢; omega) (by simp at t0 t1 ⊢) (by simp at t0 t1 ⊢) (by simp at t0 t1 ⊢; omega) (o1.apart_of o0 (Nat.le_refl _)).symm (.inl (by simp at t0 t1 ⊢; omega)) (.inl (by simp at t0 t1 ⊢))⟩
        | exact ⟨_, _, _, _, _, rfl, Aft.early hk3 hx (by simp at t0 t1 ⊢; omega) ((o0.alloc _).below hb1) o1 (by simp at t0 t1 ⊢) (by simp at t0 t1 ⊢; omega) (by simp at t0 t1 ⊢; omega) (by simp at t0 t1 ⊢) (o0.apart_of o1 (by simp at t0 t1 ⊢)) (.inr (Nat.le_refl _)) (.inl (by simp at t0 t1 ⊢))⟩
        | exact ⟨_, _, _, _, _, rfl, Aft.early hk3 hx (by simp at t0 t1 ⊢; omega) o0 ((o1.alloc _).below hb0) (by simp at t0 t1 ⊢; omega) (by simp at t0 t1 ⊢) (by simp at t0 t1 ⊢) (by simp at t0 t1 ⊢; omega) (o1.apart_of o0 (by simp at t0 t1 ⊢)).symm (.inl (by simp at t0 t1 ⊢)) (.inr (Nat.le_refl _))⟩
  case rest =>
    obtain ⟨g, B0, B1, d0, d1, rfl, af⟩ := hcut
    have s1 := k0.lt
    have t1 := af.low.size
    have gl := af.ge
    replace k0 := k0.next af.low
    have cN := impl_newStatement op d a b c n
    rcases new_any op d a b c n with ⟨hno, e⟩ | ⟨t, hok, e, hty⟩
    · rw [e] at cN
      simp only [usedV] at cN
      clear e
      have HR : Hid (stepR rs os I op d a b c n = rs) := Lib.hid (stepR_no (fun e => hno e.1.1))
      have HO : Hid (stepO rs os I op d a b c n = os) := Lib.hid (stepO_no (fun e => hno e.1.1))
      obtain ⟨x0, _⟩ := blk (i := 0) k0.s rfl
      obtain ⟨x1, _⟩ := blk (i := 1) k0.s rfl
      obtain ⟨x2, _⟩ := blk (i := 2) k0.s rfl
      obtain ⟨x3, _⟩ := blk (i := 3) k0.s rfl
      obtain ⟨x4, _⟩ := blk (i := 4) k0.s rfl
      obtain ⟨x5, _⟩ := blk (i := 5) k0.s rfl
      go_wp2_with fail
      refine (cN wc).mono ?_
      rintro e w2 ⟨rfl, hb2⟩
      have t2 := hb2.size
      replace k0 := k0.next hb2
      replace af := af.next hb2
      clear hb2 x0 x1 x2 x3 x4 x5 cN
      obtain ⟨y0, _⟩ := blk (i := 0) af.box rfl
      obtain ⟨y1, _⟩ := blk (i := 1) af.box rfl
      obtain ⟨z0, f0⟩ := blk (i := 0) k0.r rfl
      obtain ⟨z1, f1⟩ := blk (i := 1) k0.r rfl
      have K := Lib.hid k0
      have AF := Lib.hid af
      clear k0 af
      go_wp2_with fail
      rw [HR.out, HO.out]
      exact state_out (lo := w0.heap.size) K.out ⟨AF.out.o0.any, AF.out.o1.any, AF.out.ap⟩ (by omega) (Nat.le_refl _) _ rfl
    rw [e] at cN
    simp only [usedV] at cN
    clear e
    by_cases hst : stOk rs os
    case neg =>
      obtain ⟨tv, htv⟩ : ∃ tv, t.v = tv := ⟨_, rfl⟩
      rw [htv] at cN
      clear hty htv
      have HR : Hid (stepR rs os I op d a b c n = rs) := Lib.hid (stepR_no (fun e => hst e.1.2.1))
      have HO : Hid (stepO rs os I op d a b c n = os) := Lib.hid (stepO_no (fun e => hst e.1.2.1))
      obtain ⟨x0, _⟩ := blk (i := 0) k0.s rfl
      obtain ⟨x1, _⟩ := blk (i := 1) k0.s rfl
      obtain ⟨x2, _⟩ := blk (i := 2) k0.s rfl
      obtain ⟨x3, _⟩ := blk (i := 3) k0.s rfl
      obtain ⟨x4, _⟩ := blk (i := 4) k0.s rfl
      obtain ⟨x5, _⟩ := blk (i := 5) k0.s rfl
      go_wp2_with fail
      refine (cN wc).mono ?_
      rintro e w2 ⟨rfl, hb2⟩
      have t2 := hb2.size
      replace k0 := k0.next hb2
      replace af := af.next hb2
      clear hb2 x0 x1 x2 x3 x4 x5 cN
      obtain ⟨x0, _⟩ := blk (i := 0) k0.f rfl
      obtain ⟨x1, _⟩ := blk (i := 1) k0.f rfl
      have j0 := (i0.below k0.low).ints k0.low.size
      have j1 := (i1.below k0.low).ints k0.low.size
      have cS := impl_StateOk A0 n0 c0 rs A1 n1 c1 os w2 j0 L0.out (by have := M0.out; omega) j1 L1.out (by have := M1.out; omega)
      rw [decide_eq_false hst] at cS
      clear j0 j1
      go_wp2_with fail
      refine cS.mono ?_
      rintro e w3 ⟨rfl, hb3⟩
      have t3 := hb3.size
      replace k0 := k0.next hb3
      replace af := af.next hb3
      clear hb3 x0 x1 cS
      obtain ⟨y0, _⟩ := blk (i := 0) af.box rfl
      obtain ⟨y1, _⟩ := blk (i := 1) af.box rfl
      obtain ⟨z0, f0⟩ := blk (i := 0) k0.r rfl
      obtain ⟨z1, f1⟩ := blk (i := 1) k0.r rfl
      have K := Lib.hid k0
      have AF := Lib.hid af
      clear k0 af
      go_wp2_with fail
      rw [HR.out, HO.out]
      exact state_out (lo := w0.heap.size) K.out ⟨AF.out.o0.any, AF.out.o1.any, AF.out.ap⟩ (by omega) (Nat.le_refl _) _ rfl
    have l8 := hst.1
    rw [L0.out] at l8
    subst l8
    by_cases hin : insOk I
    case neg =>
      obtain ⟨tv, htv⟩ : ∃ tv, t.v = tv := ⟨_, rfl⟩
      rw [htv] at cN
      clear hty htv
      have HR : Hid (stepR rs os I op d a b c n = rs) := Lib.hid (stepR_no (fun e => hin e.1.2.2))
      have HO : Hid (stepO rs os I op d a b c n = os) := Lib.hid (stepO_no (fun e => hin e.1.2.2))
      obtain ⟨x0, _⟩ := blk (i := 0) k0.s rfl
      obtain ⟨x1, _⟩ := blk (i := 1) k0.s rfl
      obtain ⟨x2, _⟩ := blk (i := 2) k0.s rfl
      obtain ⟨x3, _⟩ := blk (i := 3) k0.s rfl
      obtain ⟨x4, _⟩ := blk (i := 4) k0.s rfl
      obtain ⟨x5, _⟩ := blk (i := 5) k0.s rfl
      go_wp2_with fail
      refine (cN wc).mono ?_
      rintro e w2 ⟨rfl, hb2⟩
      have t2 := hb2.size
      replace k0 := k0.next hb2
      replace af := af.next hb2
      clear hb2 x0 x1 x2 x3 x4 x5 cN
      obtain ⟨x0, _⟩ := blk (i := 0) k0.f rfl
      obtain ⟨x1, _⟩ := blk (i := 1) k0.f rfl
      have j0 := (i0.below k0.low).ints k0.low.size
      have j1 := (i1.below k0.low).ints k0.low.size
      have cS := impl_StateOk A0 8 c0 rs A1 n1 c1 os w2 j0 L0.out (by have := M0.out; omega) j1 L1.out (by have := M1.out; omega)
      rw [decide_eq_true hst] at cS
      clear j0 j1
      go_wp2_with fail
      refine cS.mono ?_
      rintro e w3 ⟨rfl, hb3⟩
      have t3 := hb3.size
      replace k0 := k0.next hb3
      replace af := af.next hb3
      clear hb3 x0 x1 cS
      have cI := impl_InputsOk A2 n2 c2 I false (decide_eq_false hin) w3 (h2.up k0.low k0.low.size) L2.out (by have := M2.out; omega)
      go_wp2_with fail
      refine cI.mono ?_
      rintro e w4 ⟨rfl, rfl⟩
      clear cI
      obtain ⟨y0, _⟩ := blk (i := 0) af.box rfl
      obtain ⟨y1, _⟩ := blk (i := 1) af.box rfl
      obtain ⟨z0, f0⟩ := blk (i := 0) k0.r rfl
      obtain ⟨z1, f1⟩ := blk (i := 1) k0.r rfl
      have K := Lib.hid k0
      have AF := Lib.hid af
      clear k0 af
      go_wp2_with fail
      rw [HR.out, HO.out]
      exact state_out (lo := w0.heap.size) K.out ⟨AF.out.o0.any, AF.out.o1.any, AF.out.ap⟩ (by omega) (Nat.le_refl _) _ rfl
    have hgo : goes rs os I op d a b c n := ⟨hok, hst, hin⟩
    obtain ⟨tv, htv⟩ : ∃ tv, t.v = tv := ⟨_, rfl⟩
    rw [htv] at cN
    obtain ⟨x0, _⟩ := blk (i := 0) k0.s rfl
    obtain ⟨x1, _⟩ := blk (i := 1) k0.s rfl
    obtain ⟨x2, _⟩ := blk (i := 2) k0.s rfl
    obtain ⟨x3, _⟩ := blk (i := 3) k0.s rfl
    obtain ⟨x4, _⟩ := blk (i := 4) k0.s rfl
    obtain ⟨x5, _⟩ := blk (i := 5) k0.s rfl
    go_wp2_with fail
    refine (cN wc).mono ?_
    rintro e w2 ⟨rfl, hb2⟩
    have t2 := hb2.size
    replace k0 := k0.next hb2
    replace af := af.next hb2
    clear hb2 x0 x1 x2 x3 x4 x5 cN
    obtain ⟨x0, _⟩ := blk (i := 0) k0.f rfl
    obtain ⟨x1, _⟩ := blk (i := 1) k0.f rfl
    have j0 := (i0.below k0.low).ints k0.low.size
    have j1 := (i1.below k0.low).ints k0.low.size
    have cS := impl_StateOk A0 8 c0 rs A1 n1 c1 os w2 j0 L0.out (by have := M0.out; omega) j1 L1.out (by have := M1.out; omega)
    rw [decide_eq_true hst] at cS
    clear j0 j1
    go_wp2_with fail
    refine cS.mono ?_
    rintro e w3 ⟨rfl, hb3⟩
    have t3 := hb3.size
    replace k0 := k0.next hb3
    replace af := af.next hb3
    clear hb3 x0 x1 cS
    have cI := impl_InputsOk A2 n2 c2 I true (decide_eq_true hin) w3 (h2.up k0.low k0.low.size) L2.out (by have := M2.out; omega)
    go_wp2_with fail
    refine cI.mono ?_
    rintro e w4 ⟨rfl, rfl⟩
    clear cI
    go_upto_block 0 with (fail)
    go_cut [7] (fun p wx => ∃ (C0 C1 : Option Addr) (e0 e1 q1 : Nat), p = .pointer (some ⟨g, 0, none⟩) ∧ Bx3S w wx #[.slice A0 8 c0, .slice A1 n1 c1] #[.int .i64 op, .int .i64 d, .int .i64 a, .int .i64 b, .int .i64 c, .int .i64 n] #[.slice none 0 0, .slice none 0 0] ∧ Aft w0 wx g (.slice C0 8 e0) (.slice C1 q1 e1) 8 q1 (stepR rs os I op d a b c n) (stepO rs os I op d a b c n))
    case rest =>
      obtain ⟨C0, C1, e0, e1, q1, rfl, k9, af9⟩ := hcut
      have ls9 := af9.low.size
      clear k0 af
      replace k0 := k9
      replace af := af9
      clear k9 af9
      obtain ⟨y0, _⟩ := blk (i := 0) af.box rfl
      obtain ⟨y1, _⟩ := blk (i := 1) af.box rfl
      obtain ⟨z0, f0⟩ := blk (i := 0) k0.r rfl
      obtain ⟨z1, f1⟩ := blk (i := 1) k0.r rfl
      have K := Lib.hid k0
      have AF := Lib.hid af
      clear k0 af
      go_wp2_with fail
      exact state_out (lo := w0.heap.size) K.out ⟨AF.out.o0.any, AF.out.o1.any, AF.out.ap⟩ (by omega) (Nat.le_refl _) _ rfl
    rcases tyOf_cases (op := op) (d := d) (a := a) (b := b) (c := c) (n := n) with ⟨hop, e⟩ | ⟨hop, e⟩ | ⟨hop, e⟩ | ⟨hop, e⟩ | ⟨hop, e⟩ | ⟨hop, e⟩ | ⟨hop, e⟩ | ⟨hop, e⟩
    · rw [e] at hty
      injection hty with hty
      subst hty hop
      subst htv
      clear e
      have HR : Hid (stepR rs os I 1 d a b c n = rs.set d.toNat n) := Lib.hid (by rw [stepR_yes hgo (by omega)]; rfl)
      have HO : Hid (stepO rs os I 1 d a b c n = os) := Lib.hid (stepO_no (fun e => by have := e.2; omega))
      have hd : 0 ≤ d ∧ d < 8 := by unfold okI isReg at hok; omega
      obtain ⟨hd0, hd8⟩ := hd
      have as1 := as_con (.con d n)
      simp only [Ty.v] at *
      clear hgo hok
      go_upto_region 8 with (fail)
      obtain ⟨bb, rfl, hbb, hbt⟩ := own_addr af.o0.own (by omega)
      have hgb : g ≠ bb := fun e => af.f0 (by rw [e]; rfl)
      have hgt := af.lt
      have b9 := heap_alloc_new w3 (.cells #[.int .i64 d, .int .i64 n] 95)
      have hb5 := below_alloc w3 (.cells #[.int .i64 d, .int .i64 n] 95)
      have t5 := hb5.size
      replace k0 := k0.next hb5
      replace af := af.next hb5
      generalize w3.alloc (.cells #[.int .i64 d, .int .i64 n] 95) = w5 at *
      clear hb5
      obtain ⟨r0, fr0⟩ := af.o0.cellAt (j := d.toNat) (by omega)
      obtain ⟨y0, _⟩ := blk (i := 0) af.box rfl
      obtain ⟨q0, _⟩ := blk (i := 0) b9 rfl
      obtain ⟨q1, _⟩ := blk (i := 1) b9 rfl
      have af2 := af.set (j := d.toNat) hbb n
      have k2 := k0.far (g := bb) (by omega) d.toNat (.int .i64 n)
      go_upto_region 24 with (fail)
      generalize w5.setCell ⟨bb, d.toNat, none⟩ (.int .i64 n) = w6 at *
      clear q0 q1 r0 fr0 y0 b9 k0 af
      replace k0 := k2
      replace af := af2
      clear k2 af2
      go_wp2_with fail
      go_meet
      exact ⟨_, _, _, _, _, rfl, k0, by rw [HR.out, HO.out]; exact af⟩
    · rw [e] at hty
      injection hty with hty
      subst hty hop
      subst htv
      clear e
      obtain ⟨x, hx⟩ : ∃ x, (I.getD a.toNat []).getD n.toNat 0 = x := ⟨_, rfl⟩
      have HR : Hid (stepR rs os I 2 d a b c n = rs.set d.toNat x) := Lib.hid (by rw [stepR_yes hgo (by omega), ← hx]; rfl)
      have HO : Hid (stepO rs os I 2 d a b c n = os) := Lib.hid (stepO_no (fun e => by have := e.2; omega))
      have hd : 0 ≤ d ∧ d < 8 ∧ 0 ≤ a ∧ a < 5 ∧ 0 ≤ n ∧ n < 4 := by unfold okI isReg at hok; omega
      obtain ⟨hd0, hd8, ha0, ha5, hn0, hn4⟩ := hd
      have as1 := as_con (.inp d a n)
      have as2 := as_inp (.inp d a n)
      have hrow := (hin.row (k := a.toNat) (by omega)).1
      have hI5 := hin.1
      rw [L2.out] at hI5
      subst hI5
      simp only [Ty.v] at *
      clear hgo hok
      go_upto_region 11 with (fail)
      obtain ⟨bb, rfl, hbb, hbt⟩ := own_addr af.o0.own (by omega)
      have hgb : g ≠ bb := fun e => af.f0 (by rw [e]; rfl)
      have hgt := af.lt
      have b9 := heap_alloc_new w3 (.cells #[.int .i64 d, .int .i64 a, .int .i64 n] 97)
      have hb5 := below_alloc w3 (.cells #[.int .i64 d, .int .i64 a, .int .i64 n] 97)
      have t5 := hb5.size
      replace k0 := k0.next hb5
      replace af := af.next hb5
      generalize w3.alloc (.cells #[.int .i64 d, .int .i64 a, .int .i64 n] 97) = w5 at *
      clear hb5
      obtain ⟨r0, fr0⟩ := af.o0.cellAt (j := d.toNat) (by omega)
      obtain ⟨y0, _⟩ := blk (i := 0) af.box rfl
      obtain ⟨q0, _⟩ := blk (i := 0) b9 rfl
      obtain ⟨q1, _⟩ := blk (i := 1) b9 rfl
      obtain ⟨q2, _⟩ := blk (i := 2) b9 rfl
      obtain ⟨bI, oI, Aj, cj, eA, _, u0, ir⟩ := (h2.below k0.low).at_ (j := a.toNat) (by rw [L2.out]; omega)
      subst eA
      rw [hrow] at u0
      obtain ⟨bR, oR, eA, _, u1⟩ := ir.at_ (j := n.toNat) (by rw [hrow]; omega)
      subst eA
      rw [hx] at u1
      have af2 := (af.set (j := d.toNat) hbb x).drew
      have k2 := (k0.far (g := bb) (by omega) d.toNat (.int .i64 x)).drew
      clear ir hrow h2 hx
      go_region
      generalize (w5.setCell ⟨bb, d.toNat, none⟩ (.int .i64 x)).drew = w6 at *
      clear q0 q1 q2 u0 u1 r0 fr0 y0 b9 k0 af
      replace k0 := k2
      replace af := af2
      clear k2 af2
      go_wp2_with fail
      go_meet
      exact ⟨_, _, _, _, _, rfl, k0, by rw [HR.out, HO.out]; exact af⟩
    · rw [e] at hty
      injection hty with hty
      subst hty
      subst htv
      clear e
      have hv : valI rs I op a b c n = operI op (rs.getD a.toNat 0) (rs.getD b.toNat 0) := by unfold valI; rw [if_neg (by omega), if_neg (by omega), if_neg (by omega)]
      have hr1 : stepR rs os I op d a b c n = rs.set d.toNat (operI op (rs.getD a.toNat 0) (rs.getD b.toNat 0)) := by rw [stepR_yes hgo (by omega), hv]
      have HO : Hid (stepO rs os I op d a b c n = os) := Lib.hid (stepO_no (fun e => by have := e.2; omega))
      have hd : 0 ≤ d ∧ d < 8 ∧ 0 ≤ a ∧ a < 8 ∧ 0 ≤ b ∧ b < 8 := by unfold okI isReg at hok; omega
      obtain ⟨hd0, hd8, ha0, ha8, hb0, hb8⟩ := hd
      have as1 := as_con (.bin op d a b)
      have as2 := as_inp (.bin op d a b)
      have as3 := as_bin (.bin op d a b)
      simp only [Ty.v] at *
      clear hgo hok hv hop
      go_upto_region 14 with (fail)
      obtain ⟨bb, rfl, hbb, hbt⟩ := own_addr af.o0.own (by omega)
      have hgb : g ≠ bb := fun e => af.f0 (by rw [e]; rfl)
      have hgt := af.lt
      have b9 := heap_alloc_new w3 (.cells #[.int .i64 op, .int .i64 d, .int .i64 a, .int .i64 b] 99)
      have hb5 := below_alloc w3 (.cells #[.int .i64 op, .int .i64 d, .int .i64 a, .int .i64 b] 99)
      have t5 := hb5.size
      replace k0 := k0.next hb5
      replace af := af.next hb5
      generalize w3.alloc (.cells #[.int .i64 op, .int .i64 d, .int .i64 a, .int .i64 b] 99) = w5 at *
      clear hb5
      obtain ⟨r0, fr0⟩ := af.o0.cellAt (j := d.toNat) (by omega)
      obtain ⟨y0, _⟩ := blk (i := 0) af.box rfl
      obtain ⟨q0, _⟩ := blk (i := 0) b9 rfl
      obtain ⟨q1, _⟩ := blk (i := 1) b9 rfl
      obtain ⟨q2, _⟩ := blk (i := 2) b9 rfl
      obtain ⟨q3, _⟩ := blk (i := 3) b9 rfl
      obtain ⟨x0, _⟩ := blk (i := 0) k0.f rfl
      obtain ⟨bA, oA, eA, _, u0⟩ := (i0.below k0.low).at_ (j := a.toNat) (by rw [L0.out]; omega)
      obtain ⟨bA', oA', eA', _, u1⟩ := (i0.below k0.low).at_ (j := b.toNat) (by rw [L0.out]; omega)
      subst eA
      injection eA' with eA'
      injection eA' with e1 e2
      subst e1 e2
      generalize rs.getD a.toNat 0 = ra at *
      generalize rs.getD b.toNat 0 = rb at *
      have cO := impl_Operate op ra rb
      have hd9 : d.toNat < 8 := by omega
      obtain ⟨x, hx⟩ : ∃ x, operI op ra rb = x := ⟨_, rfl⟩
      rw [hx] at cO hr1
      have HR := Lib.hid hr1
      clear hx hr1
      go_region_held3 (fun w' => w'.cell? ⟨g, 0, none⟩ = some (.slice (some ⟨bb, 0, none⟩) 8 d0) ∧ w'.cell? ⟨w3.heap.size, 0, none⟩ = some (.int .i64 op) ∧ w'.cell? ⟨w3.heap.size, 1, none⟩ = some (.int .i64 d) ∧ w'.cell? ⟨w3.heap.size, 2, none⟩ = some (.int .i64 a) ∧ w'.cell? ⟨w3.heap.size, 3, none⟩ = some (.int .i64 b) ∧ w'.cell? ⟨w.heap.size, 0, none⟩ = some (.slice (some ⟨bA, oA, none⟩) 8 c0) ∧ w'.cell? ⟨bA, oA + a.toNat, none⟩ = some (.int .i64 ra) ∧ w'.cell? ⟨bA, oA + b.toNat, none⟩ = some (.int .i64 rb)) ((repeat' apply And.intro) <;> first | assumption | (refine far_one ?_ ?_ _ <;> first | assumption | (dsimp only; omega)) | (go_keep; done)) (first
        | (go_at_call 20; (refine (cO _).mono ?_); rintro e w7 ⟨rfl, hb7⟩; (have af7 := af.drew.next hb7); (have k7 := k0.drew.next hb7); (have y07 := cell_on (W := w5.drew) y0 hb7); (have q07 := cell_on (W := w5.drew) q0 hb7); (have q17 := cell_on (W := w5.drew) q1 hb7); (have q27 := cell_on (W := w5.drew) q2 hb7); (have q37 := cell_on (W := w5.drew) q3 hb7); (have x07 := cell_on (W := w5.drew) x0 hb7); (have u07 := cell_on (W := w5.drew) u0 hb7); (have u17 := cell_on (W := w5.drew) u1 hb7); (obtain ⟨r7, fr7⟩ := af7.o0.cellAt hd9)))
      have af2 := af7.set (j := d.toNat) hbb x
      have k2 := k7.far (g := bb) (by omega) d.toNat (.int .i64 x)
      generalize w7.setCell ⟨bb, d.toNat, none⟩ (.int .i64 x) = w6 at *
      clear q0 q1 q2 q3 u0 u1 r0 fr0 x0 y0 b9 k0 af q07 q17 q27 q37 u07 u17 x07 y07 r7 fr7 k7 af7 hb7
      replace k0 := k2
      replace af := af2
      clear k2 af2
      go_wp2_with fail
      go_meet
      exact ⟨_, _, _, _, _, rfl, k0, by rw [HR.out, HO.out]; exact af⟩
    · rw [e] at hty
      injection hty with hty
      subst hty hop
      subst htv
      clear e
      obtain ⟨ra, hra⟩ : ∃ ra, rs.getD a.toNat 0 = ra := ⟨_, rfl⟩
      have hr4 := hst.2.1.at_ a.toNat
      rw [hra] at hr4
      by_cases hbit : bits .and .i64 ra 1 = 1
      · obtain ⟨x, hx⟩ : ∃ x, rs.getD b.toNat 0 = x := ⟨_, rfl⟩
        have hv : valI rs I 10 a b c n = x := by unfold valI; rw [if_neg (by omega), if_neg (by omega), if_pos rfl, hra, if_pos hbit, hx]
        have HR : Hid (stepR rs os I 10 d a b c n = rs.set d.toNat x) := Lib.hid (by rw [stepR_yes hgo (by omega), hv])
        have HO : Hid (stepO rs os I 10 d a b c n = os) := Lib.hid (stepO_no (fun e => by have := e.2; omega))
        clear hv
        have hd : 0 ≤ d ∧ d < 8 ∧ 0 ≤ a ∧ a < 8 ∧ 0 ≤ b ∧ b < 8 ∧ 0 ≤ c ∧ c < 8 := by unfold okI isReg at hok; omega
        obtain ⟨hd0, hd8, ha0, ha8, hb0, hb8, hc0, hc8⟩ := hd
        have as1 := as_con (.mux d a b c)
        have as2 := as_inp (.mux d a b c)
        have as3 := as_bin (.mux d a b c)
        have as4 := as_mux (.mux d a b c)
        simp only [Ty.v] at *
        have cL := impl_LowBit4 ra hr4.1 hr4.2
        rw [hbit] at cL
        clear hgo hok hbit hr4
        go_upto_region 17 with (fail)
        obtain ⟨bb, rfl, hbb, hbt⟩ := own_addr af.o0.own (by omega)
        have hgb : g ≠ bb := fun e => af.f0 (by rw [e]; rfl)
        have hgt := af.lt
        have b9 := heap_alloc_new w3 (.cells #[.int .i64 d, .int .i64 a, .int .i64 b, .int .i64 c] 101)
        have hb5 := below_alloc w3 (.cells #[.int .i64 d, .int .i64 a, .int .i64 b, .int .i64 c] 101)
        have t5 := hb5.size
        replace k0 := k0.next hb5
        replace af := af.next hb5
        generalize w3.alloc (.cells #[.int .i64 d, .int .i64 a, .int .i64 b, .int .i64 c] 101) = w5 at *
        clear hb5
        obtain ⟨r0, fr0⟩ := af.o0.cellAt (j := d.toNat) (by omega)
        obtain ⟨y0, _⟩ := blk (i := 0) af.box rfl
        obtain ⟨q0, _⟩ := blk (i := 0) b9 rfl
        obtain ⟨q1, _⟩ := blk (i := 1) b9 rfl
        obtain ⟨q2, _⟩ := blk (i := 2) b9 rfl
        obtain ⟨q3, _⟩ := blk (i := 3) b9 rfl
        obtain ⟨x0, _⟩ := blk (i := 0) k0.f rfl
        obtain ⟨bA, oA, eA, _, u0⟩ := (i0.below k0.low).at_ (j := a.toNat) (by rw [L0.out]; omega)
        obtain ⟨bA', oA', eA', _, u1⟩ := (i0.below k0.low).at_ (j := b.toNat) (by rw [L0.out]; omega)
        subst eA
        injection eA' with eA'
        injection eA' with e1 e2
        subst e1 e2
        rw [hra] at u0
        rw [hx] at u1
        have af2 := (af.set (j := d.toNat) hbb x).drew
        have k2 := (k0.far (g := bb) (by omega) d.toNat (.int .i64 x)).drew
        clear h2 hx hra
        go_wp2_with fail
        refine (cL _).mono ?_
        rintro e w6 ⟨rfl, rfl⟩
        go_wp2_with fail
        go_region
        generalize (w5.setCell ⟨bb, d.toNat, none⟩ (.int .i64 x)).drew = w6 at *
        clear q0 q1 q2 q3 u0 u1 r0 fr0 y0 b9 k0 af x0
        replace k0 := k2
        replace af := af2
        clear k2 af2
        go_wp2_with fail
        go_meet
        exact ⟨_, _, _, _, _, rfl, k0, by rw [HR.out, HO.out]; exact af⟩
      · obtain ⟨x, hx⟩ : ∃ x, rs.getD c.toNat 0 = x := ⟨_, rfl⟩
        have hv : valI rs I 10 a b c n = x := by unfold valI; rw [if_neg (by omega), if_neg (by omega), if_pos rfl, hra, if_neg hbit, hx]
        have HR : Hid (stepR rs os I 10 d a b c n = rs.set d.toNat x) := Lib.hid (by rw [stepR_yes hgo (by omega), hv])
        have HO : Hid (stepO rs os I 10 d a b c n = os) := Lib.hid (stepO_no (fun e => by have := e.2; omega))
        clear hv
        have hd : 0 ≤ d ∧ d < 8 ∧ 0 ≤ a ∧ a < 8 ∧ 0 ≤ b ∧ b < 8 ∧ 0 ≤ c ∧ c < 8 := by unfold okI isReg at hok; omega
        obtain ⟨hd0, hd8, ha0, ha8, hb0, hb8, hc0, hc8⟩ := hd
        have as1 := as_con (.mux d a b c)
        have as2 := as_inp (.mux d a b c)
        have as3 := as_bin (.mux d a b c)
        have as4 := as_mux (.mux d a b c)
        simp only [Ty.v] at *
        have cL := impl_LowBit4 ra hr4.1 hr4.2
        have hr1 : (bits .and .i64 ra 1 == 1) = false := beq_eq_false_iff_ne.2 hbit
        generalize bits .and .i64 ra 1 = rl at *
        clear hgo hok hbit hr4
        go_upto_region 17 with (fail)
        obtain ⟨bb, rfl, hbb, hbt⟩ := own_addr af.o0.own (by omega)
        have hgb : g ≠ bb := fun e => af.f0 (by rw [e]; rfl)
        have hgt := af.lt
        have b9 := heap_alloc_new w3 (.cells #[.int .i64 d, .int .i64 a, .int .i64 b, .int .i64 c] 101)
        have hb5 := below_alloc w3 (.cells #[.int .i64 d, .int .i64 a, .int .i64 b, .int .i64 c] 101)
        have t5 := hb5.size
        replace k0 := k0.next hb5
        replace af := af.next hb5
        generalize w3.alloc (.cells #[.int .i64 d, .int .i64 a, .int .i64 b, .int .i64 c] 101) = w5 at *
        clear hb5
        obtain ⟨r0, fr0⟩ := af.o0.cellAt (j := d.toNat) (by omega)
        obtain ⟨y0, _⟩ := blk (i := 0) af.box rfl
        obtain ⟨q0, _⟩ := blk (i := 0) b9 rfl
        obtain ⟨q1, _⟩ := blk (i := 1) b9 rfl
        obtain ⟨q2, _⟩ := blk (i := 2) b9 rfl
        obtain ⟨q3, _⟩ := blk (i := 3) b9 rfl
        obtain ⟨x0, _⟩ := blk (i := 0) k0.f rfl
        obtain ⟨bA, oA, eA, _, u0⟩ := (i0.below k0.low).at_ (j := a.toNat) (by rw [L0.out]; omega)
        obtain ⟨bA', oA', eA', _, u1⟩ := (i0.below k0.low).at_ (j := c.toNat) (by rw [L0.out]; omega)
        subst eA
        injection eA' with eA'
        injection eA' with e1 e2
        subst e1 e2
        rw [hra] at u0
        rw [hx] at u1
        have af2 := (af.set (j := d.toNat) hbb x).drew
        have k2 := (k0.far (g := bb) (by omega) d.toNat (.int .i64 x)).drew
        clear h2 hx hra
        go_wp2_with fail
        refine (cL _).mono ?_
        rintro e w6 ⟨rfl, rfl⟩
        go_wp2_with fail
        go_region
        generalize (w5.setCell ⟨bb, d.toNat, none⟩ (.int .i64 x)).drew = w6 at *
        clear q0 q1 q2 q3 u0 u1 r0 fr0 y0 b9 k0 af x0
        replace k0 := k2
        replace af := af2
        clear k2 af2
        go_wp2_with fail
        go_meet
        exact ⟨_, _, _, _, _, rfl, k0, by rw [HR.out, HO.out]; exact af⟩
    · rw [e] at hty
      injection hty with hty
      subst hty hop
      subst htv
      clear e
      obtain ⟨x, hx⟩ : ∃ x, rs.getD a.toNat 0 = x := ⟨_, rfl⟩
      have HR : Hid (stepR rs os I 11 d a b c n = rs) := Lib.hid (stepR_no (fun e => by have := e.2; omega))
      have HO : Hid (stepO rs os I 11 d a b c n = os ++ [x]) := Lib.hid (by rw [stepO_yes hgo rfl, hx])
      have hd : 0 ≤ a ∧ a < 8 := by unfold okI isReg at hok; omega
      obtain ⟨ha0, ha8⟩ := hd
      have as1 := as_con (.out a)
      have as2 := as_inp (.out a)
      have as3 := as_bin (.out a)
      have as4 := as_mux (.out a)
      have as5 := as_out (.out a)
      simp only [Ty.v] at *
      clear hgo hok
      go_upto_region 23 with (fail)
      have hgt := af.lt
      have b9 := heap_alloc_new w3 (.cells #[.int .i64 a] 104)
      have hb5 := below_alloc w3 (.cells #[.int .i64 a] 104)
      have t5 := hb5.size
      replace k0 := k0.next hb5
      replace af := af.next hb5
      generalize w3.alloc (.cells #[.int .i64 a] 104) = w5 at *
      clear hb5
      obtain ⟨q0, _⟩ := blk (i := 0) b9 rfl
      obtain ⟨x0, _⟩ := blk (i := 0) k0.f rfl
      obtain ⟨y1, _⟩ := blk (i := 1) af.box rfl
      obtain ⟨bA, oA, eA, _, u0⟩ := (i0.below k0.low).at_ (j := a.toNat) (by rw [L0.out]; omega)
      subst eA
      rw [hx] at u0
      have bal := below_alloc w5 (.cells #[.int .i64 x] 3)
      have q0a := cell_on q0 bal
      have x0a := cell_on x0 bal
      have y1a := cell_on y1 bal
      have u0a := cell_on u0 bal
      have hm1 : n1 ≤ 1999999 := M1.out
      have hls := af.low.size
      clear h2 hx
      go_region_law (refine app_step (e' := 3) elemInt (by rfl) _ _ (by rfl) w0.heap.size _ n1 (intVals os) (by rfl) ((own_below af.o1.own bal).drew) w5.heap.size 1 1 _ (0, 0) (by rfl) (heap_alloc_new w5 _) (by rfl) (oneCell_i64 [_]) (by omega) (by unfold maxLen; omega) (by omega) (by simp; omega) (w5.heap.size + 1) (by simp) ?_; intro g3 cap3 w7 ho7 hg7 hat7 hl7; (have hc7 := heap_grown (w := (w5.alloc (.cells #[.int .i64 x] 3)).drew) (heap_alloc af.box (.cells #[.int .i64 x] 3)) hg7 (fun e => af.f1 e)); (obtain ⟨y7, f7⟩ := blk (i := 1) hc7 rfl))
      all_goals
        have hg8 : (w5.alloc (.cells #[.int .i64 x] 3)).grownBy w7 (Value.slice B1 n1 d1).ownBlock := ⟨hg7.os, hg7.tape, hg7.output, hg7.size, hg7.block⟩
        have af2 := Aft.app af ho7 hg8 hat7
        have k2 := ((k0.next bal).grown hg8 (fun k e => by have := (af.o1.ltB e).1; omega)).far (g := g) (by omega) 1 (.slice (some ⟨g3, 0, none⟩) (n1 + 1) cap3)
        generalize w7.setCell ⟨g, 1, none⟩ (.slice (some ⟨g3, 0, none⟩) (n1 + 1) cap3) = w6 at *
        clear q0 x0 y1 u0 q0a x0a y1a u0a b9 k0 af y7 f7 hc7 ho7 hg7 hg8 hat7 hl7 bal
        replace k0 := k2
        replace af := af2
        clear k2 af2
        go_wp2_with fail
        go_meet
        exact ⟨_, _, _, _, _, rfl, k0, by rw [HR.out, HO.out]; exact af⟩
    · rw [e] at hty
      injection hty with hty
      subst hty hop
      subst htv
      clear e
      have HR : Hid (stepR rs os I 12 d a b c n = rs) := Lib.hid (stepR_no (fun e => by have := e.2; omega))
      have HO : Hid (stepO rs os I 12 d a b c n = os) := Lib.hid (stepO_no (fun e => by have := e.2; omega))
      have as1 := as_con (.rep n)
      have as2 := as_inp (.rep n)
      have as3 := as_bin (.rep n)
      have as4 := as_mux (.rep n)
      have as5 := as_out (.rep n)
      simp only [Ty.v] at *
      clear hgo hok
      go_wp2_with fail
      go_meet
      exact ⟨_, _, _, _, _, rfl, k0, by rw [HR.out, HO.out]; exact af⟩
    · rw [e] at hty
      injection hty with hty
      subst hty hop
      subst htv
      clear e
      have HR : Hid (stepR rs os I 13 d a b c n = rs) := Lib.hid (stepR_no (fun e => by have := e.2; omega))
      have HO : Hid (stepO rs os I 13 d a b c n = os) := Lib.hid (stepO_no (fun e => by have := e.2; omega))
      have as1 := as_con (.fin)
      have as2 := as_inp (.fin)
      have as3 := as_bin (.fin)
      have as4 := as_mux (.fin)
      have as5 := as_out (.fin)
      simp only [Ty.v] at *
      clear hgo hok
      go_wp2_with fail
      go_meet
      exact ⟨_, _, _, _, _, rfl, k0, by rw [HR.out, HO.out]; exact af⟩
    · unfold okI at hok
      omega
end Go.Proofs.Ytlaidjibcpfnjaa
