/- The program's parts of PublicOf: constLabels, decodeBits. No condition. -/
import Derived.Test.YtfpcjgolcbjnjaaProg
import Derived.Test.YtfpcjgolcbjnjaaGbO
import Derived.Test.YtfpcjgolcbjnjaaGbS
import Derived.Test.YtfpcjgolcbjnjaaCirC
import Derived.Test.YtfpcjgolcbjnjaaCirE
import Derived.Deep.RegionLaw
namespace Go.Proofs.Ytfpcjgolcbjnjaa
open Go Go.RowKit
theorem gbC_yes {z zs : List Int} {d : Int} {k : Nat} {x : Int} (h : gk z k = 2) (hx : lblI (zs.getD k 0) d (ga z k) = x) : gbC z zs d (k + 1) = gbC z zs d k ++ [x] := by rw [gbC, if_pos h, hx]
theorem gbC_no {z zs : List Int} {d : Int} {k : Nat} (h : ¬ gk z k = 2) : gbC z zs d (k + 1) = gbC z zs d k := by rw [gbC, if_neg h, List.append_nil]
set_option maxRecDepth 100000 in
set_option maxHeartbeats 2000000 in
theorem impl_constLabels (g : Nat) (A0 : Option Addr) (n0 c0 : Nat) (z0 : List Int) (A1 : Option Addr) (n1 c1 : Nat) (d : Int) (A2 : Option Addr) (n2 c2 : Nat) (zs : List Int) (v4 : Value) (w : World)
    (hb : w.heap[g]? = some (.cells #[.slice A0 n0 c0, .slice A1 n1 c1, .int .i64 d, .slice A2 n2 c2, v4] 77 (0, 0)))
    (h0 : Ints w A0 z0) (l0 : z0.length = n0 * 3) (m0 : n0 ≤ 6000) (h2 : Ints w A2 zs) (l2 : zs.length = n2) (e2 : n2 = n0) :
    Calls Try.prog 51 #[.pointer (some ⟨g, 0, none⟩)] w (Post_A (gbC z0 zs d n0) w) := by
  have hgl := heap_lt hb
  have a0 := (blk (i := 0) hb rfl).1
  have a1 := (blk (i := 1) hb rfl).1
  have L0 := Lib.hid l0
  have L2 := Lib.hid l2
  have cN := impl_CountGates A0 n0 c0 z0 A1 n1 c1 2 w h0 l0 (by omega)
  have hle := cnt_le z0 2 n0
  have i0 := h0.bound
  have i2 := h2.bound
  obtain ⟨C, hC⟩ : ∃ C, cnt z0 2 n0 = C := ⟨_, rfl⟩
  rw [hC] at cN hle
  clear l0 l2 h0 h2 hC
  go_enter Try.func51, Try.ntmps51
  go_wp2_with fail
  refine cN.mono ?_
  rintro e w1 ⟨rfl, hb1⟩
  have hx1 := heap_below hb hb1
  replace i0 := i0.below hb1
  replace i2 := i2.below hb1
  have L := hb1
  clear cN a0 a1 hb hb1
  have a0 := (blk (i := 0) hx1 rfl).1
  go_wp2_with (first | (refine make_list elemInt rfl _ _ rfl w1.heap.size _ _ C C rfl rfl rfl (by omega) (by unfold maxLen; omega) (Nat.le_refl _) ?_))
  intro w2 hown2 hg2
  have HG := Lib.hid (Grow.made (Below.refl w1.heap.size w1) hg2 hown2)
  have hx2 := heap_below hx1 HG.out.low
  clear hown2 hg2 a0
  have a0 := (blk (i := 0) hx2 rfl).1
  go_wp2_with fail
  go_loopw [3, 18] (fun v i wr => ∃ k m : Nat, k ≤ n0 ∧ i = .int .i64 k ∧ Grow w1 wr v m (gbC z0 zs d k)) (fun _ i _ => n0 - (intOf i).toNat)
  case atStart => exact ⟨0, 0, Nat.zero_le _, rfl, HG.out⟩
  case round =>
    obtain ⟨k, m, hk, rfl, gr⟩ := hrel
    clear HG hx2 a0
    by_cases hlt : k < n0
    · have k0 : (0 : Int) ≤ k := by omega
      have k1 : (k : Int) < n0 := by omega
      have hxr := heap_below hx1 gr.low
      have hmm : m ≤ 6000 := by have h1 := gr.len; rw [gbC_length] at h1; have := cnt_le z0 2 k; omega
      obtain ⟨q, o, rfl, -, e0, e1, e2⟩ := gateCells (i0.below (gr.low.mono L.size)) L0.out hlt
      obtain ⟨qz, oz, rfl, -, f0⟩ := (i2.below (gr.low.mono L.size)).at_ (j := k) (by rw [L2.out]; omega)
      have Hy : Hid (∀ x, gk z0 k = 2 → lblI (zs.getD k 0) d (ga z0 k) = x → gbC z0 zs d (k + 1) = gbC z0 zs d k ++ [x]) := Lib.hid (fun x h hx => gbC_yes h hx)
      have Hn : Hid (¬ gk z0 k = 2 → gbC z0 zs d (k + 1) = gbC z0 zs d k) := Lib.hid (fun h => gbC_no h)
      generalize gk z0 k = kd at *
      generalize ga z0 k = ka at *
      generalize gb z0 k = kb at *
      generalize zs.getD k 0 = z at *
      obtain ⟨Av, mv, cv, rfl, rfl⟩ := ownsRow_slice gr.own
      have ga := gr.alloc (.cells #[.int .i64 kd, .int .i64 ka, .int .i64 kb] 86)
      have bx := heap_alloc_new wr (.cells #[.int .i64 kd, .int .i64 ka, .int .i64 kb] 86)
      have hxa := heap_alloc hxr (.cells #[.int .i64 kd, .int .i64 ka, .int .i64 kb] 86)
      have fa := cell_on f0 (below_alloc wr (.cells #[.int .i64 kd, .int .i64 ka, .int .i64 kb] 86))
      by_cases hk2 : kd = 2
      · obtain ⟨X, hX⟩ : ∃ x, lblI z d ka = x := ⟨_, rfl⟩
        have EZ := Lib.hid (Hy.out X hk2 hX)
        have cL := impl_LabelFor_is z d ka X hX
        subst hk2
        generalize gbC z0 zs d k = LL at *
        clear Hy Hn hX gr hxr
        go_upto_region 5 with (fail)
        generalize hp : wr.heap.size = p at *
        generalize hwa : wr.alloc (.cells #[.int .i64 2, .int .i64 ka, .int .i64 kb] 86) = wa at *
        clear hwa hp e0 e1 e2 f0
        have b0 := (blk (i := 0) bx rfl).1
        have b1 := (blk (i := 1) bx rfl).1
        have v2 := (blk (i := 2) hxa rfl).1
        have v3 := (blk (i := 3) hxa rfl).1
        have gd := ga.drew
        have b1d : wa.drew.cell? ⟨p, 1, none⟩ = some (.int .i64 ka) := b1
        have v2d : wa.drew.cell? ⟨g, 2, none⟩ = some (.int .i64 d) := v2
        have v3d : wa.drew.cell? ⟨g, 3, none⟩ = some (.slice (some ⟨qz, oz, none⟩) n2 c2) := v3
        have fad : wa.drew.cell? ⟨qz, oz + k, none⟩ = some (.int .i64 z) := fa
        go_upto_region 6 with (fail)
        go_region_law (first
          | (refine app_step (e' := 3) elemInt (by rfl) _ _ (by rfl) w1.heap.size (.slice Av m cv) m (intVals LL) (by rfl) g7.own w7.heap.size 1 1 _ (0, 0) (by rfl) (heap_alloc_new w7 _) (by rfl) (oneCell_i64 [_]) (by omega) (by unfold maxLen; omega) (by omega) g7.size (w7.heap.size + 1) (by simp) ?_; intro g8 e8 w8 ho8 hg8 hat8 hl8)
          | (go_simp; go_at_call 55; (with_reducible refine (cL _).mono ?_); rintro e w7 ⟨rfl, hb7⟩; (have g7 := (gd.next hb7).alloc (.cells #[.int .i64 X] 3))))
        all_goals
          have H := Lib.hid (g7.app (ys := LL ++ [X]) ho8 hg8 (by simp [intVals]))
          clear ho8 hg8 hat8 hl8 g7 gd ga cL b0 b1 b1d v2 v3 v2d v3d fa fad hb7 bx hxa
          go_wp2_with fail
          go_roundw
          case rel => exact ⟨k + 1, m + 1, by omega, by go_num, by rw [EZ.out]; exact H.out⟩
          case measure => simp [intOf]; omega
      · have EZ := Lib.hid (Hn.out hk2)
        have hbe : (kd == 2) = false := beq_eq_false_iff_ne.2 hk2
        have H := Lib.hid ga
        clear Hy Hn gr hxr
        go_wp2_with fail
        go_roundw
        case rel => exact ⟨k + 1, m, by omega, by go_num, by rw [EZ.out]; exact H.out⟩
        case measure => simp [intOf]; omega
    · obtain rfl : k = n0 := by omega
      obtain ⟨A, m', c, he, hl, ho, hb⟩ := gr.done
      injection he with he
      subst he
      have O := Lib.hid (ho.any.wide (Nat.le_of_eq rfl : w1.heap.size ≤ w1.heap.size) (Nat.le_refl _))
      have LX := Lib.hid (L.trans (hb.mono L.size))
      have hs := L.size
      clear gr ho hl hb
      go_wp2_with fail
      go_ret
      exact ⟨A, m', c, rfl, O.out.wide hs (Nat.le_refl _), LX.out⟩
/-- The first k wires' labels replaced by their permute bits. -/
def dcB (zs os : List Int) (k : Nat) : List Int := low1 ((outV zs os).take k) ++ (outV zs os).drop k
theorem dcB_length (zs os : List Int) (k : Nat) : (dcB zs os k).length = os.length := by
  unfold dcB low1
  rw [List.length_append, List.length_map, List.length_take, List.length_drop, outV_length]
  omega
theorem dcB_at (zs os : List Int) {k : Nat} (h : k < os.length) : (dcB zs os k).getD k 0 = zs.getD (os.getD k 0).toNat 0 := by
  have hl : (low1 ((outV zs os).take k)).length = k := by unfold low1; rw [List.length_map, List.length_take, outV_length]; omega
  unfold dcB
  rw [gD_right (by omega), hl, Nat.sub_self, ← outV_at zs os h]
  simp [List.getD_eq_getElem?_getD, List.getElem?_drop]
theorem dcB_set (zs os : List Int) {k : Nat} (h : k < os.length) : (dcB zs os k).set k (zs.getD (os.getD k 0).toNat 0 % 2) = dcB zs os (k + 1) := by
  have hl : (low1 ((outV zs os).take k)).length = k := by unfold low1; rw [List.length_map, List.length_take, outV_length]; omega
  have ho : k < (outV zs os).length := by rw [outV_length]; exact h
  unfold dcB
  rw [List.set_append_right _ _ (by omega), hl, Nat.sub_self, List.drop_eq_getElem_cons ho, List.set_cons_zero, List.take_add_one, List.getElem?_eq_getElem ho]
  have e : (outV zs os)[k] = zs.getD (os.getD k 0).toNat 0 := by
    rw [← outV_at zs os h, List.getD_eq_getElem?_getD, List.getElem?_eq_getElem ho]
    rfl
  simp [low1, e]
theorem dcB_start (zs os : List Int) : dcB zs os 0 = outV zs os := by simp [dcB, low1]
theorem dcB_all (zs os : List Int) : dcB zs os os.length = low1 (outV zs os) := by
  unfold dcB
  rw [List.take_of_length_le (by rw [outV_length]; exact Nat.le_refl _), List.drop_eq_nil_of_le (by rw [outV_length]; exact Nat.le_refl _), List.append_nil]
set_option maxRecDepth 100000 in
set_option maxHeartbeats 2000000 in
theorem impl_decodeBits (g : Nat) (A0 : Option Addr) (n0 c0 : Nat) (A1 : Option Addr) (n1 c1 : Nat) (z1 : List Int) (d : Int) (A2 : Option Addr) (n2 c2 : Nat) (zs : List Int) (v4 : Value) (w : World)
    (hb : w.heap[g]? = some (.cells #[.slice A0 n0 c0, .slice A1 n1 c1, .int .i64 d, .slice A2 n2 c2, v4] 77 (0, 0)))
    (h1 : Ints w A1 z1) (l1 : z1.length = n1) (m1 : n1 ≤ 2000000) (h2 : Ints w A2 zs) (l2 : zs.length = n2) (ho : wiresOk z1 n2) :
    Calls Try.prog 52 #[.pointer (some ⟨g, 0, none⟩)] w (Post_A (low1 (outV zs z1)) w) := by
  have a0 := (blk (i := 0) hb rfl).1
  have a1 := (blk (i := 1) hb rfl).1
  have a3 := (blk (i := 3) hb rfl).1
  have a0d : w.drew.cell? ⟨g, 0, none⟩ = some (.slice A0 n0 c0) := a0
  have a1d : w.drew.cell? ⟨g, 1, none⟩ = some (.slice A1 n1 c1) := a1
  have a3d : w.drew.cell? ⟨g, 3, none⟩ = some (.slice A2 n2 c2) := a3
  have L1 := Lib.hid l1
  have cO := impl_atOutputs A0 n0 c0 A1 n1 c1 z1 A2 n2 c2 zs w.drew h1 l1 (by omega) h2 l2 ho
  clear l1 l2 h1 h2 ho
  go_enter Try.func52, Try.ntmps52
  go_upto_region 1 with (fail)
  go_region_law (first
    | (go_simp; go_at_call 87; (with_reducible refine cO.mono ?_); rintro e w1 ⟨A, m, c, rfl, ho1, hb1⟩))
  all_goals
    have hm : m = n1 := by have := ho1.len1; rw [outV_length, L1.out] at this; omega
    subst hm
    obtain ⟨⟨te, hown⟩, -⟩ := ho1
    have hlo : w.heap.size ≤ w1.heap.size := hb1.size
    have HO := Lib.hid (show w1.ownsRow w.heap.size te 1 (.slice A m c) m (intVals (dcB zs z1 0)) ∧ Below w.heap.size w w1 from ⟨by rw [dcB_start]; exact hown, (Below.refl w.heap.size w).drew.trans hb1⟩)
    clear hown hb1 a0 a1 a3 a0d a1d a3d cO hb
    go_wp2_with fail
    go_loopw [18] (fun i wr => ∃ k : Nat, k ≤ m ∧ i = .int .i64 k ∧ wr.ownsRow w.heap.size te 1 (.slice A m c) m (intVals (dcB zs z1 k)) ∧ Below w.heap.size w wr) (fun i _ => m - (intOf i).toNat)
    case atStart => exact ⟨0, Nat.zero_le _, rfl, HO.out.1, HO.out.2⟩
    case round =>
      obtain ⟨k, hk, rfl, hown, low⟩ := hrel
      clear HO
      by_cases hlt : k < m
      · have hlt' : k < z1.length := by rw [L1.out]; exact hlt
        obtain ⟨q, rfl, hq, hql⟩ := own_addr hown (by omega)
        have hl := dcB_length zs z1 k
        have hc : wr.cell? ⟨q, k, none⟩ = some (.int .i64 (zs.getD (z1.getD k 0).toNat 0)) := by
          rw [hown.cellAt k (by omega), ← dcB_at zs z1 hlt']
          simp [intVals, List.getElem?_map, List.getD_eq_getElem?_getD, List.getElem?_eq_getElem (show k < (dcB zs z1 k).length by omega)]
        have hf := hown.frozenAt k
        have hn := dcB_set zs z1 hlt'
        generalize zs.getD (z1.getD k 0).toNat 0 = x at *
        have cP := impl_permuteBit_is x (x % 2) rfl
        obtain ⟨y, hy⟩ : ∃ y, x % 2 = y := ⟨_, rfl⟩
        rw [hy] at cP hn
        have hst := hown.stored k (.int .i64 y)
        have H1 : Hid ((wr.setCell ⟨q, k, none⟩ (.int .i64 y)).ownsRow w.heap.size te 1 (.slice (some ⟨q, 0, none⟩) m c) m (intVals (dcB zs z1 (k + 1)))) := Lib.hid (by
          rw [← hn, show intVals ((dcB zs z1 k).set k y) = (intVals (dcB zs z1 k)).set k (.int .i64 y) by simp [intVals, List.map_set]]
          exact hst.1)
        have H2 : Hid (Below w.heap.size w (wr.setCell ⟨q, k, none⟩ (.int .i64 y))) := Lib.hid (low.setCell (p := ⟨q, k, none⟩) hq _)
        have k0 : (0 : Int) ≤ k := by omega
        have k1 : (k : Int) < m := by omega
        clear hst hown low hn hy hl hlt'
        go_wp2_with fail
        refine (cP _).mono ?_
        rintro e w5 ⟨rfl, rfl⟩
        clear cP
        go_wp2_with fail
        go_roundw
        case rel => exact ⟨k + 1, by omega, by go_num, H1.out, H2.out⟩
        case measure => simp [intOf]; omega
      · obtain rfl : k = m := by omega
        have e9 := dcB_all zs z1
        rw [L1.out] at e9
        rw [e9] at hown
        have O := Lib.hid (OwnA.of_own hown)
        have LX := Lib.hid low
        clear hown low e9
        go_wp2_with fail
        go_ret
        exact ⟨A, k, c, rfl, O.out, LX.out⟩
end Go.Proofs.Ytfpcjgolcbjnjaa
