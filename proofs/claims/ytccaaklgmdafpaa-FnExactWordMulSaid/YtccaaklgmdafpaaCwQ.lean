/- Circuit builders: single gates and full adders, the program's and the model's. No condition. -/
import Derived.Test.YtccaaklgmdafpaaProg
import Derived.Test.YtccaaklgmdafpaaCwP
namespace Go.Proofs.Ytccaaklgmdafpaa
open Go Go.RowKit
theorem impl_constant (B g n : Nat) (v v1 : Value) (z : List Int) (bit : Int) (w : World) (h : Cir B g w v v1 n z) (hB : B ≤ w.heap.size) (hn : n ≤ 1000000) :
    Calls Try.prog 87 #[.pointer (some ⟨g, 0, none⟩), .int .i64 bit] w (PutW B g v1 (n + 1) (putG z 2 bit 0) (nG z) v w) := by
  go_enter Try.func87, Try.ntmps87
  go_wp2_with fail
  refine (impl_appendGate B g n v v1 z 2 bit 0 w h hB (by omega)).mono ?_
  rintro e w1 ⟨v', rfl, h1, t1⟩
  have H1 := Lib.hid h1
  have T1 := Lib.hid t1
  clear h h1 t1
  go_wp2_with fail
  go_ret
  exact ⟨v', rfl, H1.out, T1.out⟩
theorem impl_xor (B g n : Nat) (v v1 : Value) (z : List Int) (a b : Int) (w : World) (h : Cir B g w v v1 n z) (hB : B ≤ w.heap.size) (hn : n ≤ 1000000) :
    Calls Try.prog 95 #[.pointer (some ⟨g, 0, none⟩), .int .i64 a, .int .i64 b] w (PutW B g v1 (n + 1) (putG z 3 a b) (nG z) v w) := by
  go_enter Try.func95, Try.ntmps95
  go_wp2_with fail
  refine (impl_appendGate B g n v v1 z 3 a b w h hB (by omega)).mono ?_
  rintro e w1 ⟨v', rfl, h1, t1⟩
  have H1 := Lib.hid h1
  have T1 := Lib.hid t1
  clear h h1 t1
  go_wp2_with fail
  go_ret
  exact ⟨v', rfl, H1.out, T1.out⟩
theorem impl_and (B g n : Nat) (v v1 : Value) (z : List Int) (a b : Int) (w : World) (h : Cir B g w v v1 n z) (hB : B ≤ w.heap.size) (hn : n ≤ 1000000) :
    Calls Try.prog 96 #[.pointer (some ⟨g, 0, none⟩), .int .i64 a, .int .i64 b] w (PutW B g v1 (n + 1) (putG z 4 a b) (nG z) v w) := by
  go_enter Try.func96, Try.ntmps96
  go_wp2_with fail
  refine (impl_appendGate B g n v v1 z 4 a b w h hB (by omega)).mono ?_
  rintro e w1 ⟨v', rfl, h1, t1⟩
  have H1 := Lib.hid h1
  have T1 := Lib.hid t1
  clear h h1 t1
  go_wp2_with fail
  go_ret
  exact ⟨v', rfl, H1.out, T1.out⟩
theorem impl_not (B g n : Nat) (v v1 : Value) (z : List Int) (a : Int) (w : World) (h : Cir B g w v v1 n z) (hB : B ≤ w.heap.size) (hn : n ≤ 1000000) :
    Calls Try.prog 94 #[.pointer (some ⟨g, 0, none⟩), .int .i64 a] w (PutW B g v1 (n + 1) (putG z 5 a 0) (nG z) v w) := by
  go_enter Try.func94, Try.ntmps94
  go_wp2_with fail
  refine (impl_appendGate B g n v v1 z 5 a 0 w h hB (by omega)).mono ?_
  rintro e w1 ⟨v', rfl, h1, t1⟩
  have H1 := Lib.hid h1
  have T1 := Lib.hid t1
  clear h h1 t1
  go_wp2_with fail
  go_ret
  exact ⟨v', rfl, H1.out, T1.out⟩
set_option maxHeartbeats 1000000 in
theorem impl_fullAdder (B g n : Nat) (v v1 : Value) (z : List Int) (a b c : Int) (w : World) (h : Cir B g w v v1 n z) (hB : B ≤ w.heap.size) (hn : n ≤ 999000) :
    Calls Try.prog 108 #[.pointer (some ⟨g, 0, none⟩), .int .i64 a, .int .i64 b, .int .i64 c] w (PutP B g v1 (n + 5) (fullA z a b c).1 (fullA z a b c).2.1 (fullA z a b c).2.2 v w) := by
  obtain ⟨z1, hz1⟩ : ∃ y, putG z 3 a c = y := ⟨_, rfl⟩
  obtain ⟨z2, hz2⟩ : ∃ y, putG z1 3 b c = y := ⟨_, rfl⟩
  obtain ⟨x1, hx1⟩ : ∃ y, nG z = y := ⟨_, rfl⟩
  obtain ⟨x2, hx2⟩ : ∃ y, nG z1 = y := ⟨_, rfl⟩
  obtain ⟨z3, hz3⟩ : ∃ y, putG z2 3 a x2 = y := ⟨_, rfl⟩
  obtain ⟨x3, hx3⟩ : ∃ y, nG z2 = y := ⟨_, rfl⟩
  obtain ⟨z4, hz4⟩ : ∃ y, putG z3 4 x1 x2 = y := ⟨_, rfl⟩
  obtain ⟨x4, hx4⟩ : ∃ y, nG z3 = y := ⟨_, rfl⟩
  obtain ⟨z5, hz5⟩ : ∃ y, putG z4 3 x4 c = y := ⟨_, rfl⟩
  obtain ⟨x5, hx5⟩ : ∃ y, nG z4 = y := ⟨_, rfl⟩
  have E := Lib.hid (show fullA z a b c = (z5, x3, x5) by subst hz5 hx5 hz4 hx4 hz3 hx3 hx2 hx1 hz2 hz1; rfl)
  have c1 := impl_xor B g n v v1 z a c
  rw [hz1, hx1] at c1
  have K2 := Lib.hid (fun u W (H : Cir B g W u v1 (n + 1) z1) HB => by simpa only [hz2, hx2] using impl_xor B g (n + 1) u v1 z1 b c W H HB (by omega))
  have K3 := Lib.hid (fun u W (H : Cir B g W u v1 (n + 1 + 1) z2) HB => by simpa only [hz3, hx3] using impl_xor B g (n + 1 + 1) u v1 z2 a x2 W H HB (by omega))
  have K4 := Lib.hid (fun u W (H : Cir B g W u v1 (n + 1 + 1 + 1) z3) HB => by simpa only [hz4, hx4] using impl_and B g (n + 1 + 1 + 1) u v1 z3 x1 x2 W H HB (by omega))
  have K5 := Lib.hid (fun u W (H : Cir B g W u v1 (n + 1 + 1 + 1 + 1) z4) HB => by simpa only [hz5, hx5] using impl_xor B g (n + 1 + 1 + 1 + 1) u v1 z4 x4 c W H HB (by omega))
  clear hz1 hz2 hx1 hx2 hz3 hx3 hz4 hx4 hz5 hx5
  rw [E.out]
  go_enter Try.func108, Try.ntmps108
  go_wp2_with fail
  refine (c1 w h hB (by omega)).mono ?_
  rintro e w1 ⟨u1, rfl, h1, t⟩
  have B1 := Nat.le_trans hB t.size
  clear c1 h
  go_wp2_with fail
  refine (K2.out u1 w1 h1 B1).mono ?_
  rintro e w2 ⟨u2, rfl, h2, t2⟩
  have B2 := Nat.le_trans B1 t2.size
  replace t := t.trans t2
  clear h1 t2 B1 K2
  go_wp2_with fail
  refine (K3.out u2 w2 h2 B2).mono ?_
  rintro e w3 ⟨u3, rfl, h3, t3⟩
  have B3 := Nat.le_trans B2 t3.size
  replace t := t.trans t3
  clear h2 t3 B2 K3
  go_wp2_with fail
  refine (K4.out u3 w3 h3 B3).mono ?_
  rintro e w4 ⟨u4, rfl, h4, t4⟩
  have B4 := Nat.le_trans B3 t4.size
  replace t := t.trans t4
  clear h3 t4 B3 K4
  go_wp2_with fail
  refine (K5.out u4 w4 h4 B4).mono ?_
  rintro e w5 ⟨u5, rfl, h5, t5⟩
  have T := Lib.hid (t.trans t5)
  have H := Lib.hid h5
  clear h4 t5 B4 K5 h5 t
  go_wp2_with fail
  go_returns
  exact ⟨_, rfl, H.out, T.out⟩
set_option maxHeartbeats 1000000 in
theorem spec_fullAdder (B g n : Nat) (v v1 : Value) (z : List Int) (a b c : Int) (w : World) (h : Cir B g w v v1 n z) (hB : B ≤ w.heap.size) (hn : n ≤ 999000) :
    Calls Try.prog 102 #[.pointer (some ⟨g, 0, none⟩), .int .i64 a, .int .i64 b, .int .i64 c] w (PutP B g v1 (n + 5) (fullA z a b c).1 (fullA z a b c).2.1 (fullA z a b c).2.2 v w) := by
  obtain ⟨z1, hz1⟩ : ∃ y, putG z 3 a c = y := ⟨_, rfl⟩
  obtain ⟨z2, hz2⟩ : ∃ y, putG z1 3 b c = y := ⟨_, rfl⟩
  obtain ⟨x1, hx1⟩ : ∃ y, nG z = y := ⟨_, rfl⟩
  obtain ⟨x2, hx2⟩ : ∃ y, nG z1 = y := ⟨_, rfl⟩
  obtain ⟨z3, hz3⟩ : ∃ y, putG z2 3 a x2 = y := ⟨_, rfl⟩
  obtain ⟨x3, hx3⟩ : ∃ y, nG z2 = y := ⟨_, rfl⟩
  obtain ⟨z4, hz4⟩ : ∃ y, putG z3 4 x1 x2 = y := ⟨_, rfl⟩
  obtain ⟨x4, hx4⟩ : ∃ y, nG z3 = y := ⟨_, rfl⟩
  obtain ⟨z5, hz5⟩ : ∃ y, putG z4 3 x4 c = y := ⟨_, rfl⟩
  obtain ⟨x5, hx5⟩ : ∃ y, nG z4 = y := ⟨_, rfl⟩
  have E := Lib.hid (show fullA z a b c = (z5, x3, x5) by subst hz5 hx5 hz4 hx4 hz3 hx3 hx2 hx1 hz2 hz1; rfl)
  have c1 := spec_l14Put B g n v v1 z 3 a c
  rw [hz1, hx1] at c1
  have K2 := Lib.hid (fun u W (H : Cir B g W u v1 (n + 1) z1) HB => by simpa only [hz2, hx2] using spec_l14Put B g (n + 1) u v1 z1 3 b c W H HB (by omega))
  have K3 := Lib.hid (fun u W (H : Cir B g W u v1 (n + 1 + 1) z2) HB => by simpa only [hz3, hx3] using spec_l14Put B g (n + 1 + 1) u v1 z2 3 a x2 W H HB (by omega))
  have K4 := Lib.hid (fun u W (H : Cir B g W u v1 (n + 1 + 1 + 1) z3) HB => by simpa only [hz4, hx4] using spec_l14Put B g (n + 1 + 1 + 1) u v1 z3 4 x1 x2 W H HB (by omega))
  have K5 := Lib.hid (fun u W (H : Cir B g W u v1 (n + 1 + 1 + 1 + 1) z4) HB => by simpa only [hz5, hx5] using spec_l14Put B g (n + 1 + 1 + 1 + 1) u v1 z4 3 x4 c W H HB (by omega))
  clear hz1 hz2 hx1 hx2 hz3 hx3 hz4 hx4 hz5 hx5
  rw [E.out]
  go_enter Try.func102, Try.ntmps102
  go_wp2_with fail
  refine (c1 w h hB (by omega)).mono ?_
  rintro e w1 ⟨u1, rfl, h1, t⟩
  have B1 := Nat.le_trans hB t.size
  clear c1 h
  go_wp2_with fail
  refine (K2.out u1 w1 h1 B1).mono ?_
  rintro e w2 ⟨u2, rfl, h2, t2⟩
  have B2 := Nat.le_trans B1 t2.size
  replace t := t.trans t2
  clear h1 t2 B1 K2
  go_wp2_with fail
  refine (K3.out u2 w2 h2 B2).mono ?_
  rintro e w3 ⟨u3, rfl, h3, t3⟩
  have B3 := Nat.le_trans B2 t3.size
  replace t := t.trans t3
  clear h2 t3 B2 K3
  go_wp2_with fail
  refine (K4.out u3 w3 h3 B3).mono ?_
  rintro e w4 ⟨u4, rfl, h4, t4⟩
  have B4 := Nat.le_trans B3 t4.size
  replace t := t.trans t4
  clear h3 t4 B3 K4
  go_wp2_with fail
  refine (K5.out u4 w4 h4 B4).mono ?_
  rintro e w5 ⟨u5, rfl, h5, t5⟩
  have T := Lib.hid (t.trans t5)
  have H := Lib.hid h5
  clear h4 t5 B4 K5 h5 t
  go_wp2_with fail
  go_returns
  exact ⟨_, rfl, H.out, T.out⟩
end Go.Proofs.Ytccaaklgmdafpaa
