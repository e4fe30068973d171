/- Compilation: gates for each bit, comparisons as lists, input bits: the program's. No condition. -/
import Derived.Test.YtbbdmgomcpmhpaaProg
import Derived.Test.YtbbdmgomcpmhpaaW2
import Derived.Test.YtbbdmgomcpmhpaaCwV
import Derived.Test.YtbbdmgomcpmhpaaCX1
namespace Go.Proofs.Ytbbdmgomcpmhpaa
open Go Go.RowKit
theorem wrapB {x : Int} (h0 : -9223372036854775808 ≤ x) (h1 : x < 9223372036854775808) : IntKind.i64.wrap x = x := by
  rw [IntKind.wrap_i64]
  omega
/-- A list of one wire, made behind a builder. -/
theorem Wl.cons1 {B g n : Nat} {w w1 : World} {v : Value} {v1 : Rest} {z : List Int} {y : Int} (h : Cir B g w1 v v1 n z) (hs : w.heap.size ≤ w1.heap.size) : Wl g v w.heap.size (w1.alloc (.cells #[.int .i64 y] 3)) (.slice (some ⟨w1.heap.size, 0, none⟩) 1 1) 1 [y] := by
  refine ⟨World.ownsRow_lit (e := 3) (size := 1) (base := w.heap.size) w1 #[.int .i64 y] 1 hs (by unfold maxLen; omega) rfl, fun e => ?_, fun q e e' => ?_⟩
  · have e1 : w1.heap.size = g := by simpa [Value.ownBlock] using e
    have := h.lt
    omega
  · have e1 : w1.heap.size = q := by simpa [Value.ownBlock] using e
    have := (h.own.lt q e').2
    omega
set_option maxRecDepth 100000 in
set_option maxHeartbeats 2000000 in
theorem impl_onEach_and (B g n : Nat) (v : Value) (v1 : Rest) (z : List Int) (A : Option Addr) (c : Nat) (us : List Int) (A' : Option Addr) (c' : Nat) (ws : List Int) (w : World) (h : Cir B g w v v1 n z) (hB : B ≤ w.heap.size) (ho : Off g v w A us) (lu : us.length = 4) (ho' : Off g v w A' ws) (lw : ws.length = 4) (hn : n ≤ 970000) :
    Calls Try.prog 117 #[.pointer (some ⟨g, 0, none⟩), .func (.func 85) #[] #[], .slice A 4 c, .slice A' 4 c'] w (PutL B g v1 (n + 4) (bitsAt z 4 us ws 4).1 (bitsAt z 4 us ws 4).2 v w) := by
  go_enter Try.func117, Try.ntmps117
  go_wp2_with (first | (refine make_list elemInt rfl _ _ rfl w.heap.size _ _ 4 4 rfl rfl (by omega) (by omega) (by unfold maxLen; omega) (Nat.le_refl _) ?_))
  intro w3 hown3 hg3
  have hb3 : Below w.heap.size w w3 := (Below.refl _ _).grown hg3 (Nat.le_refl _) (fun k h => by cases h)
  have S0 := Lib.hid (show Bl B g v w w3 v v1 n z _ 0 [] from ⟨h.below hb3, (Turn.refl g v w).below hb3, Wl.fresh (us := []) h hown3 (Nat.le_refl _)⟩)
  have LU := Lib.hid lu
  have LW := Lib.hid lw
  clear hown3 hg3 h hb3 lw lu
  go_wp2_with fail
  go_loopw [9, 16] (fun u i wr => ∃ (k : Nat) (v' : Value), k ≤ 4 ∧ i = .int .i64 k ∧ Bl B g v w wr v' v1 (n + k) (bitsAt z 4 us ws k).1 u k (bitsAt z 4 us ws k).2) (fun _ i _ => 4 - (intOf i).toNat)
  case atStart => exact ⟨0, v, by omega, rfl, S0.out⟩
  case round =>
    obtain ⟨k, v', hk, rfl, hs⟩ := hrel
    clear S0
    by_cases hlt : k < 4
    · have k0 : (0 : Int) ≤ k := by omega
      have k1 : (k : Int) < 4 := by omega
      obtain ⟨b, o, rfl, q0⟩ := (ho.turn hs.turn).at_ (j := k) (by rw [LU.out]; exact hlt)
      obtain ⟨b', o', rfl, q1⟩ := (ho'.turn hs.turn).at_ (j := k) (by rw [LW.out]; omega)
      have B1 := Nat.le_trans hB hs.size
      obtain ⟨A4, c4, rfl⟩ := hs.wl.form
      have hsd := hs.drew
      have B2 : B ≤ wr.drew.heap.size := B1
      have HN := Lib.hid (show bitsAt z 4 us ws (k + 1) = (putG (bitsAt z 4 us ws k).1 4 (us.getD k 0) (ws.getD k 0), (bitsAt z 4 us ws k).2 ++ [nG (bitsAt z 4 us ws k).1]) from rfl)
      generalize us.getD k 0 = ux at *
      generalize ws.getD k 0 = wx at *
      generalize bitsAt z 4 us ws k = R at *
      have c5 := impl_and B g (n + k) v' v1 R.1 ux wx
      clear ho ho' hs
      go_upto_region 5 with (fail)
      go_region_law (first
        | (refine app_step (e' := 3) elemInt (by rfl) _ _ (by rfl) w.heap.size (.slice A4 k c4) k (intVals R.2) (by rfl) (hs5.alloc (.cells #[.int .i64 (nG R.1)] 3)).wl.own w5.heap.size 1 1 _ (0, 0) (by rfl) (heap_alloc_new w5 _) (by rfl) (oneCell_i64 [_]) (by omega) (by unfold maxLen; omega) (by omega) (by simp; omega) (w5.heap.size + 1) (by simp) ?_; intro g8 e8 w8 ho8 hg8 hat8 hl8)
        | (go_simp; go_at_call 85; (with_reducible refine (c5 _ hsd.cir B2 (by omega)).mono ?_); rintro e w5 ⟨v5, rfl, h5, t5⟩; (have hs5 := hsd.next h5 t5); (have sz5 := hs5.size)))
      all_goals
        have H := Lib.hid (hs5.app ho8 hg8 hat8)
        clear h5 t5 hs5 hsd ho8 hg8 hat8 hl8 c5 q0 q1
        go_wp2_with fail
        go_roundw
        case rel => exact ⟨k + 1, v5, by omega, by go_num, by rw [HN.out]; exact H.out⟩
        case measure => simp [intOf]; omega
    · obtain rfl : k = 4 := by omega
      obtain ⟨A, c, rfl⟩ := hs.wl.form
      have H := Lib.hid hs
      clear hs
      go_wp2_with fail
      go_ret
      exact ⟨v', A, 4, c, rfl, H.out.wl.len, H.out.cir, H.out.turn, H.out.wl⟩
theorem impl_andBits (B g n : Nat) (v : Value) (v1 : Rest) (z : List Int) (A : Option Addr) (c : Nat) (us : List Int) (A' : Option Addr) (c' : Nat) (ws : List Int) (w : World) (h : Cir B g w v v1 n z) (hB : B ≤ w.heap.size) (ho : Off g v w A us) (lu : us.length = 4) (ho' : Off g v w A' ws) (lw : ws.length = 4) (hn : n ≤ 970000) :
    Calls Try.prog 101 #[.pointer (some ⟨g, 0, none⟩), .slice A 4 c, .slice A' 4 c'] w (PutL B g v1 (n + 4) (bitsAt z 4 us ws 4).1 (bitsAt z 4 us ws 4).2 v w) := by
  have c1 := impl_onEach_and B g n v v1 z A c us A' c' ws w h hB ho lu ho' lw hn
  clear h ho ho'
  go_enter Try.func101, Try.ntmps101
  go_wp2_with fail
  refine c1.mono ?_
  rintro e w1 ⟨v', A1, k1, d1, rfl, l1, h1, t1, wl1⟩
  have H := Lib.hid (And.intro l1 (And.intro h1 (And.intro t1 wl1)))
  clear l1 h1 t1 wl1 c1
  go_wp2_with fail
  go_ret
  exact ⟨v', A1, k1, d1, rfl, H.out.1, H.out.2.1, H.out.2.2.1, H.out.2.2.2⟩
set_option maxRecDepth 100000 in
set_option maxHeartbeats 2000000 in
theorem impl_onEach_xor (B g n : Nat) (v : Value) (v1 : Rest) (z : List Int) (A : Option Addr) (c : Nat) (us : List Int) (A' : Option Addr) (c' : Nat) (ws : List Int) (w : World) (h : Cir B g w v v1 n z) (hB : B ≤ w.heap.size) (ho : Off g v w A us) (lu : us.length = 4) (ho' : Off g v w A' ws) (lw : ws.length = 4) (hn : n ≤ 970000) :
    Calls Try.prog 117 #[.pointer (some ⟨g, 0, none⟩), .func (.func 84) #[] #[], .slice A 4 c, .slice A' 4 c'] w (PutL B g v1 (n + 4) (bitsAt z 3 us ws 4).1 (bitsAt z 3 us ws 4).2 v w) := by
  go_enter Try.func117, Try.ntmps117
  go_wp2_with (first | (refine make_list elemInt rfl _ _ rfl w.heap.size _ _ 4 4 rfl rfl (by omega) (by omega) (by unfold maxLen; omega) (Nat.le_refl _) ?_))
  intro w3 hown3 hg3
  have hb3 : Below w.heap.size w w3 := (Below.refl _ _).grown hg3 (Nat.le_refl _) (fun k h => by cases h)
  have S0 := Lib.hid (show Bl B g v w w3 v v1 n z _ 0 [] from ⟨h.below hb3, (Turn.refl g v w).below hb3, Wl.fresh (us := []) h hown3 (Nat.le_refl _)⟩)
  have LU := Lib.hid lu
  have LW := Lib.hid lw
  clear hown3 hg3 h hb3 lw lu
  go_wp2_with fail
  go_loopw [9, 16] (fun u i wr => ∃ (k : Nat) (v' : Value), k ≤ 4 ∧ i = .int .i64 k ∧ Bl B g v w wr v' v1 (n + k) (bitsAt z 3 us ws k).1 u k (bitsAt z 3 us ws k).2) (fun _ i _ => 4 - (intOf i).toNat)
  case atStart => exact ⟨0, v, by omega, rfl, S0.out⟩
  case round =>
    obtain ⟨k, v', hk, rfl, hs⟩ := hrel
    clear S0
    by_cases hlt : k < 4
    · have k0 : (0 : Int) ≤ k := by omega
      have k1 : (k : Int) < 4 := by omega
      obtain ⟨b, o, rfl, q0⟩ := (ho.turn hs.turn).at_ (j := k) (by rw [LU.out]; exact hlt)
      obtain ⟨b', o', rfl, q1⟩ := (ho'.turn hs.turn).at_ (j := k) (by rw [LW.out]; omega)
      have B1 := Nat.le_trans hB hs.size
      obtain ⟨A4, c4, rfl⟩ := hs.wl.form
      have hsd := hs.drew
      have B2 : B ≤ wr.drew.heap.size := B1
      have HN := Lib.hid (show bitsAt z 3 us ws (k + 1) = (putG (bitsAt z 3 us ws k).1 3 (us.getD k 0) (ws.getD k 0), (bitsAt z 3 us ws k).2 ++ [nG (bitsAt z 3 us ws k).1]) from rfl)
      generalize us.getD k 0 = ux at *
      generalize ws.getD k 0 = wx at *
      generalize bitsAt z 3 us ws k = R at *
      have c5 := impl_xor B g (n + k) v' v1 R.1 ux wx
      clear ho ho' hs
      go_upto_region 5 with (fail)
      go_region_law (first
        | (refine app_step (e' := 3) elemInt (by rfl) _ _ (by rfl) w.heap.size (.slice A4 k c4) k (intVals R.2) (by rfl) (hs5.alloc (.cells #[.int .i64 (nG R.1)] 3)).wl.own w5.heap.size 1 1 _ (0, 0) (by rfl) (heap_alloc_new w5 _) (by rfl) (oneCell_i64 [_]) (by omega) (by unfold maxLen; omega) (by omega) (by simp; omega) (w5.heap.size + 1) (by simp) ?_; intro g8 e8 w8 ho8 hg8 hat8 hl8)
        | (go_simp; go_at_call 84; (with_reducible refine (c5 _ hsd.cir B2 (by omega)).mono ?_); rintro e w5 ⟨v5, rfl, h5, t5⟩; (have hs5 := hsd.next h5 t5); (have sz5 := hs5.size)))
      all_goals
        have H := Lib.hid (hs5.app ho8 hg8 hat8)
        clear h5 t5 hs5 hsd ho8 hg8 hat8 hl8 c5 q0 q1
        go_wp2_with fail
        go_roundw
        case rel => exact ⟨k + 1, v5, by omega, by go_num, by rw [HN.out]; exact H.out⟩
        case measure => simp [intOf]; omega
    · obtain rfl : k = 4 := by omega
      obtain ⟨A, c, rfl⟩ := hs.wl.form
      have H := Lib.hid hs
      clear hs
      go_wp2_with fail
      go_ret
      exact ⟨v', A, 4, c, rfl, H.out.wl.len, H.out.cir, H.out.turn, H.out.wl⟩
theorem impl_xorBits (B g n : Nat) (v : Value) (v1 : Rest) (z : List Int) (A : Option Addr) (c : Nat) (us : List Int) (A' : Option Addr) (c' : Nat) (ws : List Int) (w : World) (h : Cir B g w v v1 n z) (hB : B ≤ w.heap.size) (ho : Off g v w A us) (lu : us.length = 4) (ho' : Off g v w A' ws) (lw : ws.length = 4) (hn : n ≤ 970000) :
    Calls Try.prog 102 #[.pointer (some ⟨g, 0, none⟩), .slice A 4 c, .slice A' 4 c'] w (PutL B g v1 (n + 4) (bitsAt z 3 us ws 4).1 (bitsAt z 3 us ws 4).2 v w) := by
  have c1 := impl_onEach_xor B g n v v1 z A c us A' c' ws w h hB ho lu ho' lw hn
  clear h ho ho'
  go_enter Try.func102, Try.ntmps102
  go_wp2_with fail
  refine c1.mono ?_
  rintro e w1 ⟨v', A1, k1, d1, rfl, l1, h1, t1, wl1⟩
  have H := Lib.hid (And.intro l1 (And.intro h1 (And.intro t1 wl1)))
  clear l1 h1 t1 wl1 c1
  go_wp2_with fail
  go_ret
  exact ⟨v', A1, k1, d1, rfl, H.out.1, H.out.2.1, H.out.2.2.1, H.out.2.2.2⟩
theorem impl_lessBit (B g n : Nat) (v : Value) (v1 : Rest) (z : List Int) (A : Option Addr) (c : Nat) (us : List Int) (A' : Option Addr) (c' : Nat) (ws : List Int) (w : World) (h : Cir B g w v v1 n z) (hB : B ≤ w.heap.size) (ho : Off g v w A us) (lu : us.length = 4) (ho' : Off g v w A' ws) (lw : ws.length = 4) (hn : n ≤ 970000) :
    Calls Try.prog 103 #[.pointer (some ⟨g, 0, none⟩), .slice A 4 c, .slice A' 4 c'] w (PutL B g v1 (n + 4 + 1 + 5 * 4 + 1) (lessA z us ws).1 [(lessA z us ws).2] v w) := by
  have c1 := impl_less B g n v v1 z A c us A' c' ws w h hB ho lu ho' lw (by omega)
  clear h ho ho'
  go_enter Try.func103, Try.ntmps103
  go_wp2_with fail
  refine c1.mono ?_
  rintro e w1 ⟨v', rfl, h1, t1⟩
  have H1 := Lib.hid h1
  have T1 := Lib.hid t1
  clear h1 t1 c1
  go_wp2_with fail
  go_ret
  have al := below_alloc w1 (.cells #[.int .i64 (lessA z us ws).2] 3)
  exact ⟨v', _, 1, 1, rfl, rfl, H1.out.below al, T1.out.below al, Wl.cons1 H1.out T1.out.size⟩
theorem impl_equalBit (B g n : Nat) (v : Value) (v1 : Rest) (z : List Int) (A : Option Addr) (c : Nat) (us : List Int) (A' : Option Addr) (c' : Nat) (ws : List Int) (w : World) (h : Cir B g w v v1 n z) (hB : B ≤ w.heap.size) (ho : Off g v w A us) (lu : us.length = 4) (ho' : Off g v w A' ws) (lw : ws.length = 4) (hn : n ≤ 970000) :
    Calls Try.prog 104 #[.pointer (some ⟨g, 0, none⟩), .slice A 4 c, .slice A' 4 c'] w (PutL B g v1 (n + 2 * 4 + 3) (equalA z us ws).1 [(equalA z us ws).2] v w) := by
  have c1 := impl_equal B g n v v1 z A c us A' c' ws w h hB ho lu ho' lw (by omega)
  clear h ho ho'
  go_enter Try.func104, Try.ntmps104
  go_wp2_with fail
  refine c1.mono ?_
  rintro e w1 ⟨v', rfl, h1, t1⟩
  have H1 := Lib.hid h1
  have T1 := Lib.hid t1
  clear h1 t1 c1
  go_wp2_with fail
  go_ret
  have al := below_alloc w1 (.cells #[.int .i64 (equalA z us ws).2] 3)
  exact ⟨v', _, 1, 1, rfl, rfl, H1.out.below al, T1.out.below al, Wl.cons1 H1.out T1.out.size⟩
theorem impl_firstInputBit (p m : Nat) (hp : p ≤ 4) (hm : m ≤ 3) (w : World) : Calls Try.prog 73 #[.int .i64 p, .int .i64 m] w fun e w' => e = .returned (.int .i64 (((p * 4 + m : Nat) : Int) * 4)) ∧ w = w' := by
  go_enter Try.func73, Try.ntmps73
  go_wp2_with fail
  go_ret
  exact ⟨ret_int (by omega), rfl⟩
set_option maxRecDepth 100000 in
set_option maxHeartbeats 1000000 in
theorem impl_input (B g n : Nat) (v : Value) (v1 : Rest) (z : List Int) (p m : Nat) (hp : p ≤ 4) (hm : m ≤ 3) (w : World) (h : Cir B g w v v1 n z) (hB : B ≤ w.heap.size) (hn : n ≤ 999000) :
    Calls Try.prog 61 #[.pointer (some ⟨g, 0, none⟩), .int .i64 p, .int .i64 m] w (PutL B g v1 (n + 4) (inAt z (p * 4 + m : Nat) 4).1 (inAt z (p * 4 + m : Nat) 4).2 v w) := by
  have hgl := h.lt
  have cF := impl_firstInputBit p m hp hm
  generalize hpm : p * 4 + m = q at *
  have q20 : q < 20 := by omega
  go_enter Try.func61, Try.ntmps61
  go_wp2_with (first | (refine make_list elemInt rfl _ _ rfl w.heap.size _ _ 4 4 rfl rfl (by omega) (by omega) (by unfold maxLen; omega) (Nat.le_refl _) ?_))
  intro w3 hown3 hg3
  have hb3 : Below w.heap.size w w3 := (Below.refl _ _).grown hg3 (Nat.le_refl _) (fun k h => by cases h)
  have S0 := Lib.hid (show Bl B g v w w3 v v1 n z _ 0 [] from ⟨h.below hb3, (Turn.refl g v w).below hb3, Wl.fresh (us := []) h hown3 (Nat.le_refl _)⟩)
  clear hown3 hg3 h hb3
  go_wp2_with fail
  go_loopw [7, 10] (fun u i wr => ∃ (k : Nat) (v' : Value), k ≤ 4 ∧ i = .int .i64 k ∧ Bl B g v w wr v' v1 (n + k) (inAt z (q : Nat) k).1 u k (inAt z (q : Nat) k).2) (fun _ i _ => 4 - (intOf i).toNat)
  case atStart => exact ⟨0, v, by omega, rfl, S0.out⟩
  case round =>
    obtain ⟨k, v', hk, rfl, hs⟩ := hrel
    clear S0
    by_cases hlt : k < 4
    · have k0 : (0 : Int) ≤ k := by omega
      have k1 : (k : Int) < 4 := by omega
      have B1 := Nat.le_trans hB hs.size
      have xw : IntKind.i64.wrap ((q : Int) * 4 + (k : Int)) = (q : Int) * 4 + (k : Int) := by rw [wrapB (by omega) (by omega)]
      go_wp2_with fail
      refine (cF wr).mono ?_
      rintro e w9 ⟨rfl, rfl⟩
      go_wp2_with fail
      refine (impl_appendGate B g (n + k) v' v1 (inAt z (q : Nat) k).1 1 ((q : Int) * 4 + (k : Int)) 0 wr hs.cir B1 (by omega)).mono ?_
      rintro e w4 ⟨v4, rfl, h4, t4⟩
      have h5 := hs.next h4 t4
      have sz := h5.size
      clear h4 t4 hs
      go_wp2_with (first | (at_builtin; refine app_list (e' := 3) elemInt rfl _ _ rfl w.heap.size _ k (intVals (inAt z (q : Nat) k).2) rfl (h5.alloc (.cells #[.int .i64 (nG (inAt z (q : Nat) k).1)] 3)).wl.own w4.heap.size 1 1 _ (0, 0) rfl (heap_alloc_new w4 _) rfl (oneCell_i64 [_]) (by omega) (by unfold maxLen; omega) (by omega) (by simp; omega) (w4.heap.size + 1) (by simp) ?_))
      intro g5 c5 w5 ho5 hg5 hat5 _
      have H := Lib.hid (h5.app ho5 hg5 hat5)
      clear h5 ho5 hg5 hat5
      go_wp2_with fail
      go_roundw
      case rel => exact ⟨k + 1, v4, by omega, by go_num, H.out⟩
      case measure => simp [intOf]; omega
    · obtain rfl : k = 4 := by omega
      obtain ⟨A, c, rfl⟩ := hs.wl.form
      have H := Lib.hid hs
      clear hs
      go_wp2_with fail
      go_ret
      exact ⟨v', A, 4, c, rfl, H.out.wl.len, H.out.cir, H.out.turn, H.out.wl⟩
end Go.Proofs.Ytbbdmgomcpmhpaa
