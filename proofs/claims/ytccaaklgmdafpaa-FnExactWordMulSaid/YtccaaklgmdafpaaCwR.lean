/- Circuit builders: lists of wires, the program's. No condition. -/
import Derived.Test.YtccaaklgmdafpaaProg
import Derived.Test.YtccaaklgmdafpaaCwQ
namespace Go.Proofs.Ytccaaklgmdafpaa
open Go Go.RowKit
theorem bit_fin : ∀ p : Fin 4, ∀ x : Fin 16, bits BinOp.and IntKind.i64 ((x.val : Int) / 2 ^ p.val) 1 = (x.val : Int) / 2 ^ p.val % 2 := by decide +kernel
theorem bit_at {p : Nat} (hp : p < 4) {x : Int} (hx : 0 ≤ x ∧ x ≤ 15) : bits BinOp.and IntKind.i64 (x / 2 ^ p) 1 = x / 2 ^ p % 2 := by
  have h := bit_fin ⟨p, hp⟩ ⟨x.toNat, by omega⟩
  simp only at h
  rwa [Int.toNat_of_nonneg hx.1] at h
set_option maxRecDepth 100000 in
set_option maxHeartbeats 1000000 in
theorem impl_number (B g n : Nat) (v v1 : Value) (z : List Int) (N : Int) (hN : 0 ≤ N ∧ N ≤ 15) (w : World) (h : Cir B g w v v1 n z) (hB : B ≤ w.heap.size) (hn : n ≤ 999000) :
    Calls Try.prog 46 #[.pointer (some ⟨g, 0, none⟩), .int .i64 N] w (PutL B g v1 (n + 4) (constAt z N 4).1 (constAt z N 4).2 v w) := by
  have hgl := h.lt
  go_enter Try.func46, Try.ntmps46
  go_wp2_with (first | (refine make_list elemInt rfl _ _ rfl w.heap.size _ _ 4 4 rfl rfl (by omega) (by omega) (by unfold maxLen; omega) (Nat.le_refl _) ?_))
  intro w3 hown3 hg3
  have hb3 : Below w.heap.size w w3 := (Below.refl _ _).grown hg3 (Nat.le_refl _) (fun k h => by cases h)
  have S0 := Lib.hid (show Bl B g v w w3 v v1 n z _ 0 [] from ⟨h.below hb3, (Turn.refl g v w).below hb3, Wl.fresh (us := []) h hown3 (Nat.le_refl _)⟩)
  clear hown3 hg3 h hb3
  go_wp2_with fail
  go_loopw [5, 8] (fun u i wr => ∃ (k : Nat) (v' : Value), k ≤ 4 ∧ i = .int .i64 k ∧ Bl B g v w wr v' v1 (n + k) (constAt z N k).1 u k (constAt z N k).2) (fun _ i _ => 4 - (intOf i).toNat)
  case atStart => exact ⟨0, v, by omega, rfl, S0.out⟩
  case round =>
    obtain ⟨k, v', hk, rfl, hs⟩ := hrel
    clear S0
    by_cases hlt : k < 4
    · have k0 : (0 : Int) ≤ k := by omega
      have k1 : (k : Int) < 4 := by omega
      have hbit := bit_at hlt hN
      have B1 := Nat.le_trans hB hs.size
      go_wp2_with fail
      refine (impl_constant B g (n + k) v' v1 (constAt z N k).1 (N / 2 ^ k % 2) wr hs.cir B1 (by omega)).mono ?_
      rintro e w4 ⟨v4, rfl, h4, t4⟩
      have h5 := hs.next h4 t4
      have sz := h5.size
      clear h4 t4 hs
      go_wp2_with (first | (at_builtin; refine app_list (e' := 3) elemInt rfl _ _ rfl w.heap.size _ k (intVals (constAt z N k).2) rfl (h5.alloc (.cells #[.int .i64 (nG (constAt z N k).1)] 3)).wl.own w4.heap.size 1 1 _ (0, 0) rfl (heap_alloc_new w4 _) rfl (oneCell_i64 [_]) (by omega) (by unfold maxLen; omega) (by omega) (by simp; omega) (w4.heap.size + 1) (by simp) ?_))
      intro g5 c5 w5 ho5 hg5 hat5 _
      have H := Lib.hid (h5.app ho5 hg5 hat5)
      clear h5 ho5 hg5 hat5
      go_wp2_with fail
      go_roundw
      case rel => exact ⟨k + 1, v4, by omega, by go_num, H.out⟩
      case measure => simp [intOf]; omega
    · obtain rfl : k = 4 := by omega
      obtain ⟨A, c, rfl⟩ := hs.wl.form
      have H := Lib.hid hs
      clear hs
      go_wp2_with fail
      go_ret
      exact ⟨v', A, 4, c, rfl, H.out.wl.len, H.out.cir, H.out.turn, H.out.wl⟩
set_option maxRecDepth 100000 in
set_option maxHeartbeats 1000000 in
theorem impl_notEach (B g n : Nat) (v v1 : Value) (z : List Int) (A : Option Addr) (m c : Nat) (ws : List Int) (w : World) (h : Cir B g w v v1 n z) (hB : B ≤ w.heap.size) (ho : Off g v w A ws) (lw : ws.length = m) (hm : m ≤ 1000) (hn : n ≤ 990000) :
    Calls Try.prog 89 #[.pointer (some ⟨g, 0, none⟩), .slice A m c] w (PutL B g v1 (n + m) (notsAt z ws m).1 (notsAt z ws m).2 v w) := by
  go_enter Try.func89, Try.ntmps89
  go_wp2_with (first | (refine make_list elemInt rfl _ _ rfl w.heap.size _ _ m m rfl rfl (by omega) (by omega) (by unfold maxLen; omega) (Nat.le_refl _) ?_))
  intro w3 hown3 hg3
  have hb3 : Below w.heap.size w w3 := (Below.refl _ _).grown hg3 (Nat.le_refl _) (fun k h => by cases h)
  have S0 := Lib.hid (show Bl B g v w w3 v v1 n z _ 0 [] from ⟨h.below hb3, (Turn.refl g v w).below hb3, Wl.fresh (us := []) h hown3 (Nat.le_refl _)⟩)
  have LW := Lib.hid lw
  clear hown3 hg3 h hb3 lw
  go_wp2_with fail
  go_loopw [5, 13] (fun u i wr => ∃ (k : Nat) (v' : Value), k ≤ m ∧ i = .int .i64 k ∧ Bl B g v w wr v' v1 (n + k) (notsAt z ws k).1 u k (notsAt z ws k).2) (fun _ i _ => m - (intOf i).toNat)
  case atStart => exact ⟨0, v, by omega, rfl, S0.out⟩
  case round =>
    obtain ⟨k, v', hk, rfl, hs⟩ := hrel
    clear S0
    by_cases hlt : k < m
    · have k0 : (0 : Int) ≤ k := by omega
      have k1 : (k : Int) < m := by omega
      obtain ⟨b, o, rfl, q0⟩ := (ho.turn hs.turn).at_ (j := k) (by rw [LW.out]; exact hlt)
      have B1 := Nat.le_trans hB hs.size
      clear ho
      go_wp2_with fail
      refine (impl_not B g (n + k) v' v1 (notsAt z ws k).1 (ws.getD k 0) wr hs.cir B1 (by omega)).mono ?_
      rintro e w4 ⟨v4, rfl, h4, t4⟩
      have h5 := hs.next h4 t4
      have sz := h5.size
      clear h4 t4 hs
      go_wp2_with (first | (at_builtin; refine app_list (e' := 3) elemInt rfl _ _ rfl w.heap.size _ k (intVals (notsAt z ws k).2) rfl (h5.alloc (.cells #[.int .i64 (nG (notsAt z ws k).1)] 3)).wl.own w4.heap.size 1 1 _ (0, 0) rfl (heap_alloc_new w4 _) rfl (oneCell_i64 [_]) (by omega) (by unfold maxLen; omega) (by omega) (by simp; omega) (w4.heap.size + 1) (by simp) ?_))
      intro g5 c5 w5 ho5 hg5 hat5 _
      have H := Lib.hid (h5.app ho5 hg5 hat5)
      clear h5 ho5 hg5 hat5
      go_wp2_with fail
      go_roundw
      case rel => exact ⟨k + 1, v4, by omega, by go_num, H.out⟩
      case measure => simp [intOf]; omega
    · obtain rfl : k = m := by omega
      obtain ⟨A, c, rfl⟩ := hs.wl.form
      have H := Lib.hid hs
      clear hs
      go_wp2_with fail
      go_ret
      exact ⟨v', A, k, c, rfl, H.out.wl.len, H.out.cir, H.out.turn, H.out.wl⟩
set_option maxRecDepth 100000 in
set_option maxHeartbeats 1000000 in
theorem impl_andEach (B g n : Nat) (v v1 : Value) (z : List Int) (b : Int) (A : Option Addr) (m c : Nat) (ws : List Int) (w : World) (h : Cir B g w v v1 n z) (hB : B ≤ w.heap.size) (ho : Off g v w A ws) (lw : ws.length = m) (hm : m ≤ 1000) (hn : n ≤ 990000) :
    Calls Try.prog 90 #[.pointer (some ⟨g, 0, none⟩), .int .i64 b, .slice A m c] w (PutL B g v1 (n + m) (prodAt z b ws m).1 (prodAt z b ws m).2 v w) := by
  go_enter Try.func90, Try.ntmps90
  go_wp2_with (first | (refine make_list elemInt rfl _ _ rfl w.heap.size _ _ m m rfl rfl (by omega) (by omega) (by unfold maxLen; omega) (Nat.le_refl _) ?_))
  intro w3 hown3 hg3
  have hb3 : Below w.heap.size w w3 := (Below.refl _ _).grown hg3 (Nat.le_refl _) (fun k h => by cases h)
  have S0 := Lib.hid (show Bl B g v w w3 v v1 n z _ 0 [] from ⟨h.below hb3, (Turn.refl g v w).below hb3, Wl.fresh (us := []) h hown3 (Nat.le_refl _)⟩)
  have LW := Lib.hid lw
  clear hown3 hg3 h hb3 lw
  go_wp2_with fail
  go_loopw [7, 15] (fun u i wr => ∃ (k : Nat) (v' : Value), k ≤ m ∧ i = .int .i64 k ∧ Bl B g v w wr v' v1 (n + k) (prodAt z b ws k).1 u k (prodAt z b ws k).2) (fun _ i _ => m - (intOf i).toNat)
  case atStart => exact ⟨0, v, by omega, rfl, S0.out⟩
  case round =>
    obtain ⟨k, v', hk, rfl, hs⟩ := hrel
    clear S0
    by_cases hlt : k < m
    · have k0 : (0 : Int) ≤ k := by omega
      have k1 : (k : Int) < m := by omega
      obtain ⟨_, o, rfl, q0⟩ := (ho.turn hs.turn).at_ (j := k) (by rw [LW.out]; exact hlt)
      have B1 := Nat.le_trans hB hs.size
      clear ho
      go_wp2_with fail
      refine (impl_and B g (n + k) v' v1 (prodAt z b ws k).1 b (ws.getD k 0) wr hs.cir B1 (by omega)).mono ?_
      rintro e w4 ⟨v4, rfl, h4, t4⟩
      have h5 := hs.next h4 t4
      have sz := h5.size
      clear h4 t4 hs
      go_wp2_with (first | (at_builtin; refine app_list (e' := 3) elemInt rfl _ _ rfl w.heap.size _ k (intVals (prodAt z b ws k).2) rfl (h5.alloc (.cells #[.int .i64 (nG (prodAt z b ws k).1)] 3)).wl.own w4.heap.size 1 1 _ (0, 0) rfl (heap_alloc_new w4 _) rfl (oneCell_i64 [_]) (by omega) (by unfold maxLen; omega) (by omega) (by simp; omega) (w4.heap.size + 1) (by simp) ?_))
      intro g5 c5 w5 ho5 hg5 hat5 _
      have H := Lib.hid (h5.app ho5 hg5 hat5)
      clear h5 ho5 hg5 hat5
      go_wp2_with fail
      go_roundw
      case rel => exact ⟨k + 1, v4, by omega, by go_num, H.out⟩
      case measure => simp [intOf]; omega
    · obtain rfl : k = m := by omega
      obtain ⟨A, c, rfl⟩ := hs.wl.form
      have H := Lib.hid hs
      clear hs
      go_wp2_with fail
      go_ret
      exact ⟨v', A, k, c, rfl, H.out.wl.len, H.out.cir, H.out.turn, H.out.wl⟩
/-- Full adders of the first places from a carry on: the gates, the sums, the next carry. -/
def faAt (z us bs : List Int) (c : Int) : Nat → List Int × List Int × Int
  | 0 => (z, [], c)
  | i + 1 =>
    let r := faAt z us bs c i
    let f := fullA r.1 (us.getD i 0) (bs.getD i 0) r.2.2
    (f.1, r.2.1 ++ [f.2.1], f.2.2)
theorem sumAt_fa (z us bs : List Int) (first : Int) (m : Nat) : sumAt z us bs first m = faAt (putG z 2 first 0) us bs (nG z) m := by
  induction m with
  | zero => rfl
  | succ m ih => rw [sumAt, ih]; rfl
theorem carryAt_fa (z us bs : List Int) (m : Nat) : carryAt z us bs m = ((faAt (putG z 2 1 0) us bs (nG z) m).1, (faAt (putG z 2 1 0) us bs (nG z) m).2.2) := by
  induction m with
  | zero => rfl
  | succ m ih => rw [carryAt, ih]; rfl
theorem notsAt_length (z bs : List Int) (m : Nat) : (notsAt z bs m).2.length = m := by
  induction m with
  | zero => rfl
  | succ m ih => simp [notsAt, ih]
theorem prodAt_length (z : List Int) (b : Int) (us : List Int) (m : Nat) : (prodAt z b us m).2.length = m := by
  induction m with
  | zero => rfl
  | succ m ih => simp [prodAt, ih]
theorem xnorAt_length (z us bs : List Int) (m : Nat) : (xnorAt z us bs m).2.length = m := by
  induction m with
  | zero => rfl
  | succ m ih => simp [xnorAt, ih]
theorem faAt_length (z us bs : List Int) (c : Int) (m : Nat) : (faAt z us bs c m).2.1.length = m := by
  induction m with
  | zero => rfl
  | succ m ih => simp [faAt, ih]
theorem zeros_set {xs : List Int} {k m : Nat} (x : Int) (h : xs.length = k) (hk : k < m) : (xs ++ List.replicate (m - k) 0).set k x = (xs ++ [x]) ++ List.replicate (m - (k + 1)) 0 := by
  obtain ⟨d, rfl⟩ : ∃ d, m = k + (d + 1) := ⟨m - (k + 1), by omega⟩
  rw [show k + (d + 1) - k = d + 1 by omega, show k + (d + 1) - (k + 1) = d by omega, List.replicate_succ, List.set_append_right _ _ (by omega), h, Nat.sub_self]
  simp
theorem zeros_vals (m : Nat) : List.replicate m (Value.int .i64 0) = intVals (List.replicate m 0) := by simp [intVals]
set_option maxRecDepth 100000 in
set_option maxHeartbeats 2000000 in
theorem impl_fullAdders (B g n : Nat) (v v1 : Value) (z : List Int) (A : Option Addr) (m c : Nat) (us : List Int) (A' : Option Addr) (m' c' : Nat) (ws : List Int) (cy : Int) (w : World) (h : Cir B g w v v1 n z) (hB : B ≤ w.heap.size) (ho : Off g v w A us) (lu : us.length = m) (ho' : Off g v w A' ws) (lw : ws.length = m') (hmm : m ≤ m') (hm : m ≤ 1000) (hn : n ≤ 990000) :
    Calls Try.prog 93 #[.pointer (some ⟨g, 0, none⟩), .slice A m c, .slice A' m' c', .int .i64 cy] w (PutLP B g v1 (n + 5 * m) (faAt z us ws cy m).1 (faAt z us ws cy m).2.1 (faAt z us ws cy m).2.2 v w) := by
  go_enter Try.func93, Try.ntmps93
  go_wp2_with (first | (refine make_fullI Try.underlying24 infoInt rfl rfl _ _ rfl w.heap.size _ _ _ _ m rfl rfl rfl rfl (by omega) (by unfold maxLen; omega) (Nat.le_refl _) ?_))
  intro w3 hown3 hg3
  have hb3 : Below w.heap.size w w3 := (Below.refl _ _).grown hg3 (Nat.le_refl _) (fun k h => by cases h)
  rw [zeros_vals] at hown3
  have S0 := Lib.hid (show Bl B g v w w3 v v1 n z _ m (List.replicate m 0) from ⟨h.below hb3, (Turn.refl g v w).below hb3, Wl.fresh h hown3 (Nat.le_refl _)⟩)
  have LU := Lib.hid lu
  have LW := Lib.hid lw
  clear hown3 hg3 h hb3 lw lu
  go_wp2_with fail
  go_loopw [3, 17] (fun q i wr => ∃ (k : Nat) (v' : Value), k ≤ m ∧ i = .int .i64 k ∧ q = .int .i64 (faAt z us ws cy k).2.2 ∧ Bl B g v w wr v' v1 (n + 5 * k) (faAt z us ws cy k).1 (.slice (some ⟨w.heap.size, 0, none⟩) m m) m ((faAt z us ws cy k).2.1 ++ List.replicate (m - k) 0)) (fun _ i _ => m - (intOf i).toNat)
  case atStart => exact ⟨0, v, by omega, rfl, rfl, S0.out⟩
  case round =>
    obtain ⟨k, v', hk, rfl, rfl, hs⟩ := hrel
    clear S0
    by_cases hlt : k < m
    · have k0 : (0 : Int) ≤ k := by omega
      have k1 : (k : Int) < m := by omega
      have k2 : (k : Int) < m' := by omega
      obtain ⟨b, o, rfl, q0⟩ := (ho.turn hs.turn).at_ (j := k) (by rw [LU.out]; exact hlt)
      obtain ⟨b', o', rfl, q1⟩ := (ho'.turn hs.turn).at_ (j := k) (by rw [LW.out]; omega)
      have B1 := Nat.le_trans hB hs.size
      have hsd := hs.drew
      have B2 : B ≤ wr.drew.heap.size := B1
      have Hset := Lib.hid (zeros_set (m := m) (fullA (faAt z us ws cy k).1 (us.getD k 0) (ws.getD k 0) (faAt z us ws cy k).2.2).2.1 (faAt_length z us ws cy k) hlt)
      have c5 := impl_fullAdder B g (n + 5 * k) v' v1 (faAt z us ws cy k).1 (us.getD k 0) (ws.getD k 0) (faAt z us ws cy k).2.2
      have HN := Lib.hid (show faAt z us ws cy (k + 1) = ((fullA (faAt z us ws cy k).1 (us.getD k 0) (ws.getD k 0) (faAt z us ws cy k).2.2).1, (faAt z us ws cy k).2.1 ++ [(fullA (faAt z us ws cy k).1 (us.getD k 0) (ws.getD k 0) (faAt z us ws cy k).2.2).2.1], (fullA (faAt z us ws cy k).1 (us.getD k 0) (ws.getD k 0) (faAt z us ws cy k).2.2).2.2) from rfl)
      generalize fullA (faAt z us ws cy k).1 (us.getD k 0) (ws.getD k 0) (faAt z us ws cy k).2.2 = F at c5 HN Hset
      generalize us.getD k 0 = ux at *
      generalize ws.getD k 0 = wx at *
      generalize faAt z us ws cy k = R at *
      clear ho ho'
      go_upto_region 5 with (fail)
      go_region_law (go_simp; go_at_call 108; (with_reducible refine (c5 _ hsd.cir B2 (by omega)).mono ?_); rintro e w4 ⟨v4, rfl, h4, t4⟩; (have h5 := hsd.next h4 t4); (obtain ⟨d0, d1⟩ := h5.wl.at_ hlt))
      all_goals
        have H := Lib.hid (h5.set k F.2.1)
        have sz := h5.size
        clear h4 t4 hs hsd h5 d0 d1
        go_wp2_with fail
        go_roundw
        case rel => exact ⟨k + 1, v4, by omega, by go_num, by rw [HN.out], by rw [HN.out, ← Hset.out, show n + 5 * (k + 1) = n + 5 * k + 5 by omega]; exact H.out⟩
        case measure => simp [intOf]; omega
    · obtain rfl : k = m := by omega
      rw [Nat.sub_self, List.replicate_zero, List.append_nil] at hs
      have H := Lib.hid hs
      clear hs
      go_wp2_with fail
      go_returns
      exact ⟨v', _, k, k, rfl, H.out.wl.len, H.out.cir, H.out.turn, H.out.wl⟩
end Go.Proofs.Ytccaaklgmdafpaa
