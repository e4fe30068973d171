/- Compilation: the gates of any plain statement, and where the walk over the statements stands. No condition. And what goes with it. -/
import Derived.Test.YtjfmcdfgccdmpaaGreatProg
import Derived.Test.YtjfmcdfgccdmpaaGreatCE
import Derived.Test.YtjfmcdfgccdmpaaGreatCmE2
import Derived.Test.YtjfmcdfgccdmpaaGreatM1
import Derived.Test.YtjfmcdfgccdmpaaGreatB8
import Derived.Test.YtjfmcdfgccdmpaaGreatB7
import Derived.Test.YtjfmcdfgccdmpaaGreatC1
namespace Go.Proofs.YtjfmcdfgccdmpaaGreat
open Go Go.RowKit
set_option maxHeartbeats 1000000 in
theorem impl_add (B g : Nat) (v u : Value) (vs : List Value) (n m : Nat) (z os : List Int) (rg : List (List Int)) (op d a b c k : Int) (hok : okI op d a b c k) (h11 : op ≤ 11) (w : World) (h : Cp B g w v u vs n m z os rg) (hB : B ≤ w.heap.size) (hn : n ≤ 900000) (hm : m ≤ 100000) :
    ∃ t, tyOf op d a b c k = some t ∧ Calls Tryz.prog 19 #[.pointer (some ⟨g, 0, none⟩), t.v] w (AddP B g n (stZ z rg op a b c k) (stO os rg op a) (stR z rg op d a b c k) w) := by
  unfold okI isReg at hok
  rcases hok with ⟨rfl, hd, rfl, rfl, rfl, hk⟩ | ⟨rfl, hd, ha0, ha4, rfl, rfl, hk0, hk3⟩ | ⟨h3, h9, hd, ha, hb, rfl, rfl⟩ | ⟨rfl, hd, ha, hb, hc, rfl⟩ | ⟨rfl, rfl, ha, rfl, rfl, rfl⟩ | ⟨rfl, _⟩ | ⟨rfl, _⟩
  · obtain ⟨d, rfl⟩ := Int.eq_ofNat_of_zero_le hd.1
    exact ⟨.con d k, rfl, impl_add_con B g v u vs n m z os rg d (by omega) k hk w h hB hn⟩
  · obtain ⟨d, rfl⟩ := Int.eq_ofNat_of_zero_le hd.1
    obtain ⟨a, rfl⟩ := Int.eq_ofNat_of_zero_le ha0
    obtain ⟨k, rfl⟩ := Int.eq_ofNat_of_zero_le hk0
    have e := impl_add_inp B g v u vs n m z os rg d a k (by omega) (by omega) (by omega) w h hB hn
    rw [show ((a * 4 + k : Nat) : Int) = (a : Int) * 4 + k by omega] at e
    exact ⟨.inp d a k, rfl, e⟩
  · obtain ⟨d, rfl⟩ := Int.eq_ofNat_of_zero_le hd.1
    obtain ⟨a, rfl⟩ := Int.eq_ofNat_of_zero_le ha.1
    obtain ⟨b, rfl⟩ := Int.eq_ofNat_of_zero_le hb.1
    refine ⟨.bin op d a b, by unfold tyOf; rw [if_neg (by omega), if_neg (by omega), if_pos ⟨h3, h9⟩], ?_⟩
    unfold stZ stO stR
    rw [if_neg (by omega), if_neg (by omega), if_neg (by omega)]
    exact impl_add_bin B g v u vs n m z os rg op 0 0 d a b ⟨h3, h9⟩ (by omega) (by omega) (by omega) w h hB hn
  · obtain ⟨d, rfl⟩ := Int.eq_ofNat_of_zero_le hd.1
    obtain ⟨a, rfl⟩ := Int.eq_ofNat_of_zero_le ha.1
    obtain ⟨b, rfl⟩ := Int.eq_ofNat_of_zero_le hb.1
    obtain ⟨c, rfl⟩ := Int.eq_ofNat_of_zero_le hc.1
    exact ⟨.mux d a b c, rfl, impl_add_mux B g v u vs n m z os rg d a b c (by omega) (by omega) (by omega) (by omega) w h hB hn⟩
  · obtain ⟨a, rfl⟩ := Int.eq_ofNat_of_zero_le ha.1
    exact ⟨.out a, rfl, impl_add_out B g v u vs n m z os rg a (by omega) w h hB hm⟩
  · omega
  · omega
end Go.Proofs.YtjfmcdfgccdmpaaGreat

namespace Go.Proofs.YtjfmcdfgccdmpaaGreat
open Go Go.RowKit
/-- A circuit in new memory, and whether there is one. -/
def Post_Circuit_bool (z0 z1 : List Int) (r : Bool) (w : World) (e : Ending) (w' : World) : Prop :=
  ∃ (A0 A1 : Option Addr) (n0 n1 c0 c1 : Nat), e = .returned (.tuple #[.agg #[.slice A0 n0 c0, .slice A1 n1 c1], .bool r]) ∧ OwnCircuit w.heap.size w'.heap.size w' (.slice A0 n0 c0) (.slice A1 n1 c1) n0 n1 z0 z1 ∧ Below w.heap.size w w'
set_option maxRecDepth 100000 in
set_option maxHeartbeats 1000000 in
theorem impl_Compile (A : Option Addr) (n cp : Nat) (ss : List St) (w : World) (hr : Ints w A (flat ss)) (hl : ss.length = n) (hn : n ≤ 2000000) :
    Calls Tryz.prog 6 #[.slice A n cp] w (Post_Circuit_bool (cmpI ss).1 (cmpI ss).2 (decide (unrI ss)) w) := by
  have al := below_alloc w (.cells #[.slice none 0 0, .slice none 0 0] 31)
  have b0 := heap_alloc_new w (.cells #[.slice none 0 0, .slice none 0 0] 31)
  have sz0 : (w.alloc (.cells #[.slice none 0 0, .slice none 0 0] 31)).heap.size = w.heap.size + 1 := by simp
  have c1 := impl_Unroll A n cp ss (w.alloc (.cells #[.slice none 0 0, .slice none 0 0] 31)) (hr.below al) hl hn
  generalize hw0 : w.alloc (.cells #[.slice none 0 0, .slice none 0 0] 31) = w0 at *
  unfold Post_S_bool at c1
  unfold unrV at c1
  by_cases hu : unrI ss
  case neg =>
    rw [if_neg hu, decide_eq_false hu] at c1
    rw [cmp_none hu, decide_eq_false hu]
    clear hu hr
    go_enter Tryz.func6, Tryz.ntmps6
    go_wp2_with fail
    refine c1.mono ?_
    rintro e w1 ⟨B, m, c, rfl, -, -, hb⟩
    have b1 := heap_below b0 hb
    obtain ⟨x0, f0⟩ := blk (i := 0) b1 rfl
    obtain ⟨x1, f1⟩ := blk (i := 1) b1 rfl
    clear c1
    go_wp2_with fail
    have R := Lib.hid (heap_set (i := 1) (heap_set (i := 0) b1 (.slice none 0 0)) (.slice none 0 0))
    refine bodyPost_ret (results_cell_tmp_row (P := Tryz.prog) rfl _ _ _ w.heap.size 31 _ (0, 0) _ rfl rfl R.out Tryz.underlying31 rfl (by kernel_rfl)) rfl ?_
    exact ⟨none, none, 0, 0, 0, 0, rfl, OwnCircuit.nil _ _ _, ((al.trans (hb.mono al.size)).setCell (p := ⟨w.heap.size, 0, none⟩) (Nat.le_refl _) _).setCell (p := ⟨w.heap.size, 1, none⟩) (Nat.le_refl _) _⟩
  rw [if_pos hu, decide_eq_true hu] at c1
  rw [decide_eq_true hu, show cmpI ss = cmpAll (unrollL ss) cz (List.replicate 8 cw) [] 0 from if_pos hu]
  have hz := hu.2
  have HP := Lib.hid (plain_ok hu)
  generalize unrollL ss = zs at *
  clear hu hr
  go_enter Tryz.func6, Tryz.ntmps6
  go_wp2_with fail
  refine c1.mono ?_
  rintro e w1 ⟨B, m, c, rfl, hm, hown, hb1⟩
  have hi := hown.ints
  have Hm := Lib.hid hm
  have hm120 : m ≤ 120 := by omega
  have b1 := heap_below b0 hb1
  clear c1 hown hm hz
  go_wp2_with fail
  refine (impl_newCompilation w1).mono ?_
  rintro e w2 ⟨g, v, vs, rfl, hC, hb2⟩
  have S0 := Lib.hid (And.intro hC hb2)
  have S1 := Lib.hid (CmpAt.start zs)
  have t1 := hb1.size
  clear hC hb2
  go_wp2_with fail
  go_loopw [22] (fun i wr => ∃ (k : Nat) (v u : Value) (vs : List Value) (n' m' : Nat) (z os : List Int) (rg : List (List Int)), k ≤ m ∧ i = .int .i64 k ∧ n' ≤ 4 + 34 * k ∧ Cp w1.heap.size g wr v u vs n' m' z os rg ∧ CmpAt zs k z os rg ∧ Below w1.heap.size w1 wr) (fun i _ => m - (intOf i).toNat)
  case atStart => exact ⟨0, v, _, vs, 4, 0, _, _, _, Nat.zero_le _, rfl, by omega, S0.out.1, S1.out, S0.out.2⟩
  case round =>
    obtain ⟨k, v, u, vs, n', m', z, os, rg, hk, rfl, hn', hC, hD, hb⟩ := hrel
    clear S0 S1
    have lm := hC.outs.len
    have lo := hD.outs
    by_cases hlt : k < m
    · rcases hs : zs.getD k s0 with ⟨op, d, a, b, c2, mm⟩
      have hlk : k < zs.length := by rw [Hm.out]; exact hlt
      obtain ⟨q, o, rfl, hbl, q0, q1, q2, q3, q4, q5⟩ := cell6 (hi.bound.below hb) hlk hs
      have hok := HP.out (zs.getD k s0) (by rw [List.getD_eq_getElem?_getD, List.getElem?_eq_getElem hlk]; exact List.getElem_mem hlk)
      rw [hs] at hok
      obtain ⟨hok1, hok2⟩ := hok
      have hN := Lib.hid (hD.step hlk hs (fun e => by
        have h11 : 0 ≤ a ∧ a < 8 := by
          have := hok1
          unfold St.ok okI isReg at this
          simp only at this
          omega
        obtain ⟨_, _, _, _, h4, _⟩ := hC.tab.row a.toNat (by omega)
        exact h4))
      have k0 : (0 : Int) ≤ k := by omega
      have k1 : (k : Int) < m := by omega
      have hal := below_alloc wr (.cells #[.int .i64 op, .int .i64 d, .int .i64 a, .int .i64 b, .int .i64 c2, .int .i64 mm] 49)
      have hb2 := hb.trans (hal.mono hb.size)
      have hC2 := hC.below hal
      have cU := impl_usedFields op d a b c2 mm (wr.alloc (.cells #[.int .i64 op, .int .i64 d, .int .i64 a, .int .i64 b, .int .i64 c2, .int .i64 mm] 49))
      have cA := fun W (H : Cp w1.heap.size g W v u vs n' m' z os rg) HB => impl_add w1.heap.size g v u vs n' m' z os rg op d a b c2 mm hok1 hok2 W H HB (by omega) (by omega)
      clear hs hi hlk hD hb hal hok1 hok2 hC
      go_wp2_with fail
      refine cU.mono ?_
      rintro e w5 ⟨rfl, hb5⟩
      have hb6 := hb2.trans (hb5.mono hb2.size)
      obtain ⟨t, et, cA2⟩ := cA w5 (hC2.below hb5) hb6.size
      rw [et]
      simp only [usedV]
      clear cA cU hb2 hb5 hC2 et
      go_wp2_with fail
      refine cA2.mono ?_
      rintro e w6 ⟨v6, u6, vs6, n6, m6, rfl, hn6, hC6, hb7⟩
      have H6 := Lib.hid (And.intro hC6 (hb6.trans hb7))
      clear hC6 hb7 hb6 cA2
      go_wp2_with fail
      go_roundw
      case rel => exact ⟨k + 1, v6, u6, vs6, n6, m6, _, _, _, by omega, by go_num, by omega, H6.out.1, hN.out, H6.out.2⟩
      case measure => simp [intOf]; omega
    · obtain rfl : k = m := by omega
      have hd := hD
      rw [← Hm.out] at hd
      have Hd := Lib.hid hd.done
      obtain ⟨A3, q3, c3, rfl, rfl⟩ := ownsRow_slice hC.cir.own
      obtain ⟨A4, q4, c4, rfl, rfl⟩ := ownsRow_slice hC.outs.own
      have hC0 := hC.cir
      obtain ⟨g0, _⟩ := blk (i := 0) hC0.box rfl
      obtain ⟨g1, _⟩ := blk (i := 1) hC0.box rfl
      have bw := (hb.block _ (heap_lt b1)).trans b1
      obtain ⟨x0, f0⟩ := blk (i := 0) bw rfl
      obtain ⟨x1, f1⟩ := blk (i := 1) bw rfl
      clear hD hi hd
      go_wp2_with fail
      have R := Lib.hid (heap_set (i := 1) (heap_set (i := 0) bw (.slice A3 n' c3)) (.slice A4 m' c4))
      have hg : w.heap.size < w1.heap.size := by omega
      have O := Lib.hid (show OwnCircuit w.heap.size wr.heap.size ((wr.setCell ⟨w.heap.size, 0, none⟩ (.slice A3 n' c3)).setCell ⟨w.heap.size, 1, none⟩ (.slice A4 m' c4)) (.slice A3 n' c3) (.slice A4 m' c4) n' m' z os from ⟨(((OwnA.of_own hC.cir.own).setFar hg _).setFar hg _).wide (by omega) (Nat.le_refl _), (((OwnA.of_own hC.outs.own).setFar hg _).setFar hg _).wide (by omega) (Nat.le_refl _), hC.outs.ap.symm⟩)
      have L := Lib.hid ((((al.trans (hb1.mono al.size)).trans (hb.mono (by omega))).setCell (p := ⟨w.heap.size, 0, none⟩) (Nat.le_refl _) (.slice A3 n' c3)).setCell (p := ⟨w.heap.size, 1, none⟩) (Nat.le_refl _) (.slice A4 m' c4))
      refine bodyPost_ret (results_cell_tmp_row (P := Tryz.prog) rfl _ _ _ w.heap.size 31 _ (0, 0) _ rfl rfl R.out Tryz.underlying31 rfl (by kernel_rfl)) rfl ?_
      have e : cmpAll zs cz [cw, cw, cw, cw, cw, cw, cw, cw] [] 0 = (z, os) := Hd.out
      rw [e]
      exact ⟨A3, A4, n', m', c3, c4, rfl, O.out.wide (Nat.le_refl _) (by simp), L.out⟩
end Go.Proofs.YtjfmcdfgccdmpaaGreat
