/- Circuit builders: sums, differences, comparisons of words, the program's. No condition. -/
import Derived.Test.YtccaaklgmdafpaaProg
import Derived.Test.YtccaaklgmdafpaaCwT
namespace Go.Proofs.Ytccaaklgmdafpaa
open Go Go.RowKit
set_option maxRecDepth 100000 in
theorem impl_sum (B g n : Nat) (v v1 : Value) (z : List Int) (A : Option Addr) (c : Nat) (us : List Int) (A' : Option Addr) (c' : Nat) (ws : List Int) (w : World) (h : Cir B g w v v1 n z) (hB : B ≤ w.heap.size) (ho : Off g v w A us) (lu : us.length = 4) (hc : 4 ≤ c) (ho' : Off g v w A' ws) (lw : ws.length = 4) (hc' : 4 ≤ c') (hn : n ≤ 970000) :
    Calls Try.prog 48 #[.pointer (some ⟨g, 0, none⟩), .slice A 4 c, .slice A' 4 c'] w (PutL B g v1 (n + 1 + 5 * 3 + 1 + 1) (sumA z us ws 0 3).1 (sumA z us ws 0 3).2 v w) := by
  have E := Lib.hid (sumA_add z us ws 0 3)
  have c2 := fun u W (H : Cir B g W u v1 (n + 1) (putG z 2 0 0)) HB K K' => impl_addFrom B g (n + 1) u v1 (putG z 2 0 0) A 3 c us A' c' ws (nG z) W H HB K lu hc K' lw hc' (by omega) (by omega)
  have c1 := impl_constant B g n v v1 z 0
  generalize nG z = x at *
  go_enter Try.func48, Try.ntmps48
  go_wp2_with fail
  refine (c1 w h hB (by omega)).mono ?_
  rintro e w1 ⟨u1, rfl, h1, t1⟩
  have B1 := Nat.le_trans hB t1.size
  have o1 := ho.turn t1
  have o2 := ho'.turn t1
  clear h ho ho'
  go_wp2_with fail
  refine (c2 u1 w1 h1 B1 o1 o2).mono ?_
  rintro e w2 ⟨v2, A2, k2, d2, rfl, l2, h2, t2, wl2⟩
  have H := Lib.hid h2
  have T := Lib.hid (t1.trans t2)
  have L := Lib.hid (wl2.mono t1.size)
  clear h1 t1 o1 o2 h2 t2 wl2
  go_wp2_with fail
  go_ret
  exact ⟨v2, A2, k2, d2, rfl, by rw [E.out]; exact l2, by rw [E.out]; exact H.out, T.out, by rw [E.out]; exact L.out⟩
set_option maxRecDepth 100000 in
set_option maxHeartbeats 1000000 in
theorem impl_difference (B g n : Nat) (v v1 : Value) (z : List Int) (A : Option Addr) (c : Nat) (us : List Int) (A' : Option Addr) (c' : Nat) (ws : List Int) (w : World) (h : Cir B g w v v1 n z) (hB : B ≤ w.heap.size) (ho : Off g v w A us) (lu : us.length = 4) (hc : 4 ≤ c) (ho' : Off g v w A' ws) (lw : ws.length = 4) (hn : n ≤ 970000) :
    Calls Try.prog 50 #[.pointer (some ⟨g, 0, none⟩), .slice A 4 c, .slice A' 4 c'] w (PutL B g v1 (n + 4 + 1 + 5 * 3 + 1 + 1) (sumA (notsAt z ws 4).1 us (notsAt z ws 4).2 1 3).1 (sumA (notsAt z ws 4).1 us (notsAt z ws 4).2 1 3).2 v w) := by
  have c0 := impl_notEach B g n v v1 z A' 4 c' ws w h hB ho' lw (by omega) (by omega)
  have E := Lib.hid (sumA_add (notsAt z ws 4).1 us (notsAt z ws 4).2 1 3)
  have hN := notsAt_length z ws 4
  generalize notsAt z ws 4 = N at *
  have c1 := fun u W (H : Cir B g W u v1 (n + 4) N.1) HB => impl_constant B g (n + 4) u v1 N.1 1 W H HB (by omega)
  have c2 := fun X d u W (H : Cir B g W u v1 (n + 4 + 1) (putG N.1 2 1 0)) HB K K' hd => impl_addFrom B g (n + 4 + 1) u v1 (putG N.1 2 1 0) A 3 c us X d N.2 (nG N.1) W H HB K lu hc K' hN hd (by omega) (by omega)
  generalize nG N.1 = x at *
  go_enter Try.func50, Try.ntmps50
  go_wp2_with fail
  refine c0.mono ?_
  rintro e w1 ⟨u1, A1, k1, d1, rfl, l1, h1, t1, wl1⟩
  obtain rfl : k1 = 4 := by omega
  have B1 := Nat.le_trans hB t1.size
  have o1 := ho.turn t1
  have hd := wl1.cap
  have s1 := t1.size
  clear c0 h ho ho'
  go_wp2_with fail
  refine (c1 u1 w1 h1 B1).mono ?_
  rintro e w2 ⟨u2, rfl, h2, t2⟩
  have B2 := Nat.le_trans B1 t2.size
  have o2 := o1.turn t2
  have o3 := (wl1.turn t2).off
  have s2 := t2.size
  clear c1 h1 o1
  go_wp2_with fail
  refine (c2 A1 d1 u2 w2 h2 B2 o2 o3 hd).mono ?_
  rintro e w3 ⟨v3, A3, k3, d3, rfl, l3, h3, t3, wl3⟩
  have H := Lib.hid h3
  have T := Lib.hid ((t1.trans t2).trans t3)
  have L := Lib.hid (wl3.mono (Nat.le_trans s1 s2))
  clear h2 o2 o3 h3 t1 t2 t3 wl1 wl3 c2
  go_wp2_with fail
  go_ret
  exact ⟨v3, A3, k3, d3, rfl, by rw [E.out]; exact l3, by rw [E.out]; exact H.out, T.out, by rw [E.out]; exact L.out⟩
set_option maxRecDepth 100000 in
set_option maxHeartbeats 1000000 in
theorem impl_less (B g n : Nat) (v v1 : Value) (z : List Int) (A : Option Addr) (c : Nat) (us : List Int) (A' : Option Addr) (c' : Nat) (ws : List Int) (w : World) (h : Cir B g w v v1 n z) (hB : B ≤ w.heap.size) (ho : Off g v w A us) (lu : us.length = 4) (ho' : Off g v w A' ws) (lw : ws.length = 4) (hn : n ≤ 970000) :
    Calls Try.prog 57 #[.pointer (some ⟨g, 0, none⟩), .slice A 4 c, .slice A' 4 c'] w (PutW B g v1 (n + 4 + 1 + 5 * 4 + 1) (lessA z us ws).1 (lessA z us ws).2 v w) := by
  have c0 := impl_notEach B g n v v1 z A' 4 c' ws w h hB ho' lw (by omega) (by omega)
  have E := Lib.hid (show lessA z us ws = (putG (faAt (putG (notsAt z ws 4).1 2 1 0) us (notsAt z ws 4).2 (nG (notsAt z ws 4).1) 4).1 5 (faAt (putG (notsAt z ws 4).1 2 1 0) us (notsAt z ws 4).2 (nG (notsAt z ws 4).1) 4).2.2 0, nG (faAt (putG (notsAt z ws 4).1 2 1 0) us (notsAt z ws 4).2 (nG (notsAt z ws 4).1) 4).1) from by
    unfold lessA
    simp only [carryAt_fa])
  have hN := notsAt_length z ws 4
  generalize notsAt z ws 4 = N at *
  have c1 := fun u W (H : Cir B g W u v1 (n + 4) N.1) HB => impl_constant B g (n + 4) u v1 N.1 1 W H HB (by omega)
  have c2 := fun X d u W (H : Cir B g W u v1 (n + 4 + 1) (putG N.1 2 1 0)) HB K K' => impl_fullAdders B g (n + 4 + 1) u v1 (putG N.1 2 1 0) A 4 c us X 4 d N.2 (nG N.1) W H HB K lu K' hN (by omega) (by omega) (by omega)
  generalize nG N.1 = x at *
  generalize faAt (putG N.1 2 1 0) us N.2 x 4 = F at *
  have c3 := fun u W (H : Cir B g W u v1 (n + 4 + 1 + 5 * 4) F.1) HB => impl_not B g (n + 4 + 1 + 5 * 4) u v1 F.1 F.2.2 W H HB (by omega)
  generalize nG F.1 = y at *
  go_enter Try.func57, Try.ntmps57
  go_wp2_with fail
  refine c0.mono ?_
  rintro e w1 ⟨u1, A1, k1, d1, rfl, l1, h1, t1, wl1⟩
  obtain rfl : k1 = 4 := by omega
  have B1 := Nat.le_trans hB t1.size
  have o1 := ho.turn t1
  clear c0 h ho ho'
  go_wp2_with fail
  refine (c1 u1 w1 h1 B1).mono ?_
  rintro e w2 ⟨u2, rfl, h2, t2⟩
  have B2 := Nat.le_trans B1 t2.size
  have o2 := o1.turn t2
  have o3 := (wl1.turn t2).off
  clear c1 h1 o1
  go_wp2_with fail
  refine (c2 A1 d1 u2 w2 h2 B2 o2 o3).mono ?_
  rintro e w3 ⟨v3, A3, k3, d3, rfl, l3, h3, t3, wl3⟩
  have B3 := Nat.le_trans B2 t3.size
  have t4 := (t1.trans t2).trans t3
  clear h2 o2 o3 t1 t2 t3 wl1 wl3 c2
  go_wp2_with fail
  refine (c3 v3 w3 h3 B3).mono ?_
  rintro e w4 ⟨v4, rfl, h5, t5⟩
  have H := Lib.hid h5
  have T := Lib.hid (t4.trans t5)
  clear h3 h5 t5 t4 c3
  go_wp2_with fail
  go_ret
  exact ⟨v4, by rw [E.out]; rfl, by rw [E.out]; exact H.out, T.out⟩
end Go.Proofs.Ytccaaklgmdafpaa
