/- GarbledOk, the program's and the model's. No condition. -/
import Derived.Test.YtfpcjgolcbjnjaaProg
import Derived.Test.YtfpcjgolcbjnjaaGbI
import Derived.Test.YtfpcjgolcbjnjaaGbB
import Derived.Test.YtfpcjgolcbjnjaaCirB
import Derived.Test.YtfpcjgolcbjnjaaCirE
import Derived.BigQuiet
import Derived.Lib.QuietBelow
import Derived.Deep.RegionHeld3
namespace Go.Proofs.Ytfpcjgolcbjnjaa
open Go Go.RowKit
theorem allLbl_dec (zs : List Int) : allLbl zs ↔ ∀ k, k < zs.length → isLbl (zs.getD k 0) := ⟨fun h _ hk => h _ (gD_mem hk), allLbl_of⟩
theorem impl_notLabel_is (x : Int) (r : Bool) (h : decide (isLbl x) = r) (w : World) :
    Calls Try.prog 105 #[.int .i64 x] w fun e w' => e = .returned (.bool (!r)) ∧ w = w' := by subst h; exact impl_notLabel x w
theorem impl_permuteBit_is (x r : Int) (h : x % 2 = r) (w : World) :
    Calls Try.prog 88 #[.int .i64 x] w fun e w' => e = .returned (.int .i64 r) ∧ w = w' := by subst h; exact impl_permuteBit x w
set_option maxRecDepth 100000 in
theorem impl_IndexLbl (A : Option Addr) (n c : Nat) (zs : List Int) (w : World) (hz : Ints w A zs) (hl : zs.length = n) (hn : n ≤ 1000000000000) :
    Calls Try.prog 89 #[.slice A n c, .func (.func 105) #[] #[]] w fun e w' => ∃ r : Int, e = .returned (.int .i64 r) ∧ (0 ≤ r ↔ ¬ allLbl zs) ∧ w = w' := by
  have Hl := Lib.hid hl
  clear hl
  go_enter Try.func89, Try.ntmps89
  go_wp2_with fail
  go_loop [8] (fun i => ∃ k : Nat, k ≤ n ∧ i = .int .i64 k ∧ Hid (∀ j, j < k → isLbl (zs.getD j 0))) (fun i => n - (intOf i).toNat)
  case atStart => exact ⟨0, Nat.zero_le _, rfl, fun _ h => by omega⟩
  case round =>
    obtain ⟨k, hk, rfl, hne⟩ := hrel
    by_cases hlt : k < n
    · obtain ⟨b, o, rfl, _, c0⟩ := hz.at_ (j := k) (by rw [Hl.out]; exact hlt)
      have Hyes : Hid (¬ isLbl (zs.getD k 0) → ¬ allLbl zs) := fun e => allLbl_no (by rw [Hl.out]; exact hlt) e
      have Hnx : Hid (isLbl (zs.getD k 0) → ∀ j, j < k + 1 → isLbl (zs.getD j 0)) := fun e j hj => by
        rcases Nat.lt_or_ge j k with h | h
        · exact hne.out j h
        · obtain rfl : j = k := by omega
          exact e
      generalize zs.getD k 0 = y at c0 Hyes Hnx
      have k0 : (0 : Int) ≤ k := by omega
      have k1 : (k : Int) < n := by omega
      clear hz
      by_cases hxy : isLbl y
      · have Hn := Lib.hid (Hnx.out hxy)
        have cN := impl_notLabel_is y true (decide_eq_true hxy) w
        clear Hnx Hyes hxy
        go_wp2_with fail
        refine cN.mono ?_
        rintro e w1 ⟨rfl, rfl⟩
        go_wp2_with fail
        go_round
        case rel => exact ⟨k + 1, by omega, by go_num, Hn.out⟩
        case measure => simp [intOf]; omega
      · have Hy := Lib.hid (Hyes.out hxy)
        have cN := impl_notLabel_is y false (decide_eq_false hxy) w
        clear Hnx Hyes hxy
        go_wp2_with fail
        refine cN.mono ?_
        rintro e w1 ⟨rfl, rfl⟩
        go_wp2_with fail
        go_ret
        exact ⟨_, rfl, ⟨fun _ => Hy.out, fun _ => k0⟩, rfl⟩
    · obtain rfl : k = n := by omega
      have Hno : Hid (allLbl zs) := (allLbl_dec zs).2 (fun j hj => hne.out j (by rw [← Hl.out]; exact hj))
      go_wp2_with fail
      go_ret
      exact ⟨_, rfl, ⟨fun h => by omega, fun h => absurd Hno.out h⟩, rfl⟩
theorem impl_ContainsLbl (A : Option Addr) (n c : Nat) (zs : List Int) (r : Bool) (hr : decide (allLbl zs) = r) (w : World) (hz : Ints w A zs) (hl : zs.length = n) (hn : n ≤ 1000000000000) :
    Calls Try.prog 53 #[.slice A n c, .func (.func 105) #[] #[]] w fun e w' => e = .returned (.bool (!r)) ∧ w = w' := by
  go_enter Try.func53, Try.ntmps53
  go_wp2_with fail
  refine (impl_IndexLbl A n c zs w hz hl hn).mono ?_
  rintro e w1 ⟨q, rfl, hq, rfl⟩
  have hd : decide (0 ≤ q) = !r := by
    rw [← hr]
    by_cases h : allLbl zs
    · rw [decide_eq_true h, decide_eq_false (fun e => hq.1 e h)]; rfl
    · rw [decide_eq_false h, decide_eq_true (hq.2 h)]; rfl
  have Hd := Lib.hid hd
  clear hq hd
  go_wp2_with fail
  go_ret
  exact ⟨ret_bool Hd.out, rfl⟩
theorem impl_tableLength (A0 : Option Addr) (n0 c0 : Nat) (z0 : List Int) (A1 : Option Addr) (n1 c1 : Nat) (w : World) (h0 : Ints w A0 z0) (l0 : z0.length = n0 * 3) (m0 : n0 ≤ 1000000000000) :
    Calls Try.prog 106 #[.agg #[.slice A0 n0 c0, .slice A1 n1 c1]] w fun e w' => e = .returned (.int .i64 (2 * ((cnt z0 4 n0 : Nat) : Int))) ∧ Below w.heap.size w w' := by
  have low := below_alloc w (.cells #[.slice A0 n0 c0, .slice A1 n1 c1] 27)
  have cN := impl_CountGates A0 n0 c0 z0 A1 n1 c1 4 _ (h0.al (.cells #[.slice A0 n0 c0, .slice A1 n1 c1] 27)) l0 m0
  have hle := cnt_le z0 4 n0
  generalize cnt z0 4 n0 = C at *
  clear h0 l0
  go_enter Try.func106, Try.ntmps106
  go_wp2_with fail
  refine cN.mono ?_
  rintro e w1 ⟨rfl, hb1⟩
  have lowx := low.trans (hb1.mono low.size)
  clear cN low hb1
  go_wp2_with fail
  go_ret
  exact ⟨rfl, lowx⟩
/-- What the parts of a garbling must be. -/
def partsOk (z0 : List Int) (n0 : Nat) (d : Int) (zs ts : List Int) : Prop := (isLbl d ∧ d % 2 = 1) ∧ (allLbl zs ∧ zs.length = n0) ∧ allLbl ts ∧ ts.length = 2 * cnt z0 4 n0
instance (z0 : List Int) (n0 : Nat) (d : Int) (zs ts : List Int) : Decidable (partsOk z0 n0 d zs ts) := by unfold partsOk; infer_instance
theorem gOk_parts {z0 os zs ts : List Int} {n0 : Nat} {d : Int} : gOk z0 n0 os d zs ts ↔ cirOk z0 n0 os ∧ partsOk z0 n0 d zs ts := Iff.rfl
set_option maxRecDepth 100000 in
set_option maxHeartbeats 2000000 in
theorem impl_ok (g : Nat) (A0 : Option Addr) (n0 c0 : Nat) (z0 : List Int) (A1 : Option Addr) (n1 c1 : Nat) (d : Int) (A2 : Option Addr) (n2 c2 : Nat) (zs : List Int) (A3 : Option Addr) (n3 c3 : Nat) (ts : List Int) (w : World)
    (hb : w.heap[g]? = some (.cells #[.slice A0 n0 c0, .slice A1 n1 c1, .int .i64 d, .slice A2 n2 c2, .slice A3 n3 c3] 77 (0, 0)))
    (h0 : Ints w A0 z0) (l0 : z0.length = n0 * 3) (m0 : n0 ≤ 2000000) (h2 : Ints w A2 zs) (l2 : zs.length = n2) (m2 : n2 ≤ 2000000) (h3 : Ints w A3 ts) (l3 : ts.length = n3) (m3 : n3 ≤ 2000000) :
    Calls Try.prog 76 #[.pointer (some ⟨g, 0, none⟩)] w fun e w' => e = .returned (.bool (decide (partsOk z0 n0 d zs ts))) ∧ Below w.heap.size w w' := by
  have a0 := (blk (i := 0) hb rfl).1
  have a1 := (blk (i := 1) hb rfl).1
  have a2 := (blk (i := 2) hb rfl).1
  have a3 := (blk (i := 3) hb rfl).1
  have a4 := (blk (i := 4) hb rfl).1
  have L0 := Lib.hid l0
  have L2 := Lib.hid l2
  have L3 := Lib.hid l3
  clear l0 l2 l3
  by_cases hd : isLbl d
  case neg =>
    have E := Lib.hid (decide_eq_false (fun h : partsOk z0 n0 d zs ts => hd h.1.1))
    have cN := impl_notLabel_is d false (decide_eq_false hd)
    clear hd
    go_enter Try.func76, Try.ntmps76
    go_wp2_with fail
    refine (cN _).mono ?_
    rintro e w1 ⟨rfl, rfl⟩
    go_wp2_with fail
    go_ret
    rw [E.out]
    exact ⟨rfl, Below.refl _ _⟩
  have cN := impl_notLabel_is d true (decide_eq_true hd)
  by_cases hp : d % 2 = 1
  case neg =>
    have E := Lib.hid (decide_eq_false (fun h : partsOk z0 n0 d zs ts => hp h.1.2))
    have cP := impl_permuteBit_is d 0 (by omega)
    clear hd hp
    go_enter Try.func76, Try.ntmps76
    go_wp2_with fail
    refine (cN _).mono ?_
    rintro e w1 ⟨rfl, rfl⟩
    go_wp2_with fail
    refine (cP _).mono ?_
    rintro e w1 ⟨rfl, rfl⟩
    go_wp2_with fail
    go_ret
    rw [E.out]
    exact ⟨rfl, Below.refl _ _⟩
  have cP := impl_permuteBit_is d 1 hp
  have HD := Lib.hid (And.intro hd hp)
  clear hd hp
  have cT := fun W h => impl_tableLength A0 n0 c0 z0 A1 n1 c1 W h L0.out (by omega)
  have cZ := fun r hr W h => impl_ContainsLbl A2 n2 c2 zs r hr W h L2.out (by omega)
  have cS := fun r hr W h => impl_ContainsLbl A3 n3 c3 ts r hr W h L3.out (by omega)
  by_cases hn : n2 = n0
  case neg =>
    have E := Lib.hid (decide_eq_false (fun h : partsOk z0 n0 d zs ts => hn (L2.out.symm.trans h.2.1.2)))
    have hn1 : ((n2 : Int) != (n0 : Int)) = true := by simp only [bne_iff_ne, ne_eq]; omega
    have hn2 : ((n2 : Int) == (n0 : Int)) = false := beq_eq_false_iff_ne.2 (by omega)
    clear hn
    go_enter Try.func76, Try.ntmps76
    go_wp2_with fail
    refine (cN _).mono ?_
    rintro e w1 ⟨rfl, rfl⟩
    go_wp2_with fail
    refine (cP _).mono ?_
    rintro e w1 ⟨rfl, rfl⟩
    go_wp2_with fail
    go_quiet (fail)
    go_wp2_with fail
    go_ret
    rw [E.out]
    exact ⟨rfl, below_drewN (Below.refl _ _) _⟩
  subst hn
  have hn1 : ((n2 : Int) != (n2 : Int)) = false := by simp
  go_enter Try.func76, Try.ntmps76
  go_wp2_with fail
  refine (cN _).mono ?_
  rintro e w1 ⟨rfl, rfl⟩
  go_wp2_with fail
  refine (cP _).mono ?_
  rintro e w1 ⟨rfl, rfl⟩
  clear cN cP
  go_upto_region 3 with (fail)
  have q0 := cell_regrown a0
  have q1 := cell_regrown a1
  have q2 := cell_regrown a2
  have q3 := cell_regrown a3
  have q4 := cell_regrown a4
  have kT : ∀ x os, Calls Try.prog 106 #[.agg #[.slice A0 n2 c0, .slice A1 n1 c1]] (Go.Sort.grow (redrawn w x) os) fun e w'' => e = .returned (.int .i64 (2 * ((cnt z0 4 n2 : Nat) : Int))) ∧ ∃ p : Regrown, w'' = Go.Sort.grow (redrawn w p.d) p.os := fun x os => Calls.regrown_of (cT _ (h0.below (below_regrown w x os)))
  have hle := cnt_le z0 4 n2
  have HC : Hid (ts.length = 2 * cnt z0 4 n2 ↔ n3 = 2 * cnt z0 4 n2) := Lib.hid (by rw [L3.out])
  obtain ⟨C, hCC⟩ : ∃ C, cnt z0 4 n2 = C := ⟨_, rfl⟩
  have HCC := Lib.hid hCC
  rw [hCC] at kT hle
  clear hCC
  by_cases hn : n3 = 2 * C
  case neg =>
    have E := Lib.hid (decide_eq_false (fun h : partsOk z0 n2 d zs ts => hn (by rw [← HCC.out]; exact HC.out.1 h.2.2.2)))
    have hn1 : ((n3 : Int) != 2 * (C : Int)) = true := by simp; omega
    clear hn a0 a1 a2 a3 a4
    refine wp_region_quiet_below (by kernel_rfl) (by kernel_rfl) ?_
    repeat (first | go_big_quiet_step (exact kT _ _) | quiet_step (exact kT _ _))
    refine wpQuiet_nil ?_
    intro _ hw'
    obtain ⟨⟨dq, osq⟩, hw''⟩ := hw'
    subst hw''
    have L := Lib.hid (below_regrown w dq osq)
    generalize Go.Sort.grow (redrawn w dq) osq = wz at *
    clear kT q0 q1 q2 q3 q4
    go_wp2_with fail
    go_ret
    rw [E.out]
    exact ⟨rfl, L.out⟩
  have hn1 : ((n3 : Int) != 2 * (C : Int)) = false := by simp; omega
  have HN := Lib.hid hn
  clear hn a0 a1 a2 a3 a4
  refine wp_region_quiet_below (by kernel_rfl) (by kernel_rfl) ?_
  repeat (first | go_big_quiet_step (exact kT _ _) | quiet_step (exact kT _ _))
  refine wpQuiet_nil ?_
  intro _ hw'
  obtain ⟨⟨dq, osq⟩, hw''⟩ := hw'
  subst hw''
  have L := below_regrown w dq osq
  generalize Go.Sort.grow (redrawn w dq) osq = wz at *
  clear kT q0 q1 q2 q3 q4
  have hb1 := heap_below hb L
  have a0 := (blk (i := 0) hb1 rfl).1
  have a1 := (blk (i := 1) hb1 rfl).1
  have a2 := (blk (i := 2) hb1 rfl).1
  have a3 := (blk (i := 3) hb1 rfl).1
  have a4 := (blk (i := 4) hb1 rfl).1
  by_cases hz : allLbl zs
  case neg =>
    have E := Lib.hid (decide_eq_false (fun h : partsOk z0 n2 d zs ts => hz h.2.1.1))
    replace cZ := cZ false (decide_eq_false hz) wz (h2.below L)
    clear hz
    go_wp2_with fail
    refine cZ.mono ?_
    rintro e w1 ⟨rfl, rfl⟩
    go_wp2_with fail
    go_ret
    rw [E.out]
    exact ⟨rfl, L⟩
  replace cZ := cZ true (decide_eq_true hz) wz (h2.below L)
  obtain ⟨r, hr⟩ : ∃ r, decide (allLbl ts) = r := ⟨_, rfl⟩
  have E := Lib.hid (show decide (partsOk z0 n2 d zs ts) = r from by
    rw [← hr]
    exact decide_eq_decide.2 ⟨fun h => h.2.2.1, fun h => ⟨HD.out, ⟨hz, L2.out⟩, h, HC.out.2 (by rw [HCC.out]; exact HN.out)⟩⟩)
  replace cS := cS r hr wz (h3.below L)
  clear hz hr
  go_wp2_with fail
  refine cZ.mono ?_
  rintro e w1 ⟨rfl, rfl⟩
  go_wp2_with fail
  refine cS.mono ?_
  rintro e w1 ⟨rfl, rfl⟩
  clear cZ cS
  go_wp2_with fail
  go_ret
  rw [E.out]
  exact ⟨by simp, L⟩
end Go.Proofs.Ytfpcjgolcbjnjaa
