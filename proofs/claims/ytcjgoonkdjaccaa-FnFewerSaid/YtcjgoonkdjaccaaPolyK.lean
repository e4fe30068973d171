/- Polynomial shares: the program's test of consistency, by differences. -/
import Derived.Test.YtcjgoonkdjaccaaProg
import Derived.Test.YtcjgoonkdjaccaaPolyJ
import Derived.Test.YtcjgoonkdjaccaaGrow
namespace Go.Proofs.Ytcjgoonkdjaccaa
open Go Go.RowKit
theorem OwnI.cap {lo hi : Nat} {w : World} {A : Option Addr} {n c : Nat} {zs : List Int} (h : OwnI lo hi w (.slice A n c) n zs) : n ≤ c := by
  rcases h.own.2 with ⟨_, h1⟩ | ⟨g, cap, cur, e, _, _, h2, _⟩
  · omega
  · injection e with _ _ e3
    omega
theorem impl_nonzero (a : Int) (b : Bool) (hb : decide (a ≠ 0) = b) (w : World) :
    Calls Try.prog 46 #[.int .i64 a] w fun e w' => e = .returned (.bool b) ∧ w = w' := by
  by_cases h : a = 0
  · subst h
    go_enter Try.func46, Try.ntmps46
    go_wp2_with fail
    go_ret
    exact ⟨ret_bool (by rw [← hb]; rfl), rfl⟩
  · have h2 : (a == 0) = false := beq_eq_false_iff_ne.2 h
    go_enter Try.func46, Try.ntmps46
    go_wp2_with fail
    go_ret
    exact ⟨ret_bool (by rw [← hb, decide_eq_true h]; simp [h]), rfl⟩
def allZ (zs : List Int) : Prop := ∀ x ∈ zs, x = 0
instance (zs : List Int) : Decidable (allZ zs) := by unfold allZ; infer_instance
set_option maxRecDepth 100000 in
theorem impl_IndexFunc (A : Option Addr) (n c : Nat) (zs : List Int) (w : World) (hz : Ints w A zs) (hl : zs.length = n) (hn : n ≤ 2000000) :
    Calls Try.prog 77 #[.slice A n c, .func (.func 46) #[] #[]] w fun e w' => ∃ r : Int, e = .returned (.int .i64 r) ∧ (0 ≤ r ↔ ¬ allZ zs) ∧ w = w' := by
  have Hl := Lib.hid hl
  clear hl
  go_enter Try.func77, Try.ntmps77
  go_wp2_with fail
  go_loop [8] (fun i => ∃ k : Nat, k ≤ n ∧ i = .int .i64 k ∧ Hid (∀ j, j < k → zs.getD j 0 = 0)) (fun i => n - (intOf i).toNat)
  case atStart => exact ⟨0, Nat.zero_le _, rfl, fun _ h => by omega⟩
  case round =>
    obtain ⟨k, hk, rfl, hne⟩ := hrel
    by_cases hlt : k < n
    · obtain ⟨b, o, rfl, _, c0⟩ := hz.at_ (j := k) (by rw [Hl.out]; exact hlt)
      have Hyes : Hid (zs.getD k 0 ≠ 0 → ¬ allZ zs) := fun e h => (by
        rw [List.getD_eq_getElem?_getD, List.getElem?_eq_getElem (by rw [Hl.out]; exact hlt)] at e
        exact e (h _ (List.getElem_mem _)))
      have Hnx : Hid (zs.getD k 0 = 0 → ∀ j, j < k + 1 → zs.getD j 0 = 0) := fun e j hj => by
        rcases Nat.lt_or_ge j k with h | h
        · exact hne.out j h
        · obtain rfl : j = k := by omega
          exact e
      generalize zs.getD k 0 = y at c0 Hyes Hnx
      have k0 : (0 : Int) ≤ k := by omega
      have k1 : (k : Int) < n := by omega
      clear hz
      by_cases hxy : y = 0
      · have Hn := Lib.hid (Hnx.out hxy)
        clear Hnx Hyes
        subst hxy
        go_wp2_with fail
        refine (impl_nonzero 0 false (by decide) w).mono ?_
        rintro e w1 ⟨rfl, rfl⟩
        go_wp2_with fail
        go_round
        case rel => exact ⟨k + 1, by omega, by go_num, Hn.out⟩
        case measure => simp [intOf]; omega
      · have Hy := Lib.hid (Hyes.out hxy)
        have Hd := Lib.hid (show decide (y ≠ 0) = true from decide_eq_true hxy)
        clear Hnx Hyes
        go_wp2_with fail
        refine (impl_nonzero y true Hd.out w).mono ?_
        rintro e w1 ⟨rfl, rfl⟩
        go_wp2_with fail
        go_ret
        exact ⟨_, rfl, ⟨fun _ => Hy.out, fun _ => k0⟩, rfl⟩
    · obtain rfl : k = n := by omega
      have Hno : Hid (allZ zs) := (fun x h => by
        obtain ⟨j, hj, rfl⟩ := List.mem_iff_getElem.1 h
        have := hne.out j (by rw [← Hl.out]; exact hj)
        rw [List.getD_eq_getElem?_getD, List.getElem?_eq_getElem hj] at this
        exact this)
      go_wp2_with fail
      go_ret
      exact ⟨_, rfl, ⟨fun h => by omega, fun h => absurd Hno.out h⟩, rfl⟩
theorem impl_ContainsFunc (A : Option Addr) (n c : Nat) (zs : List Int) (r : Bool) (hr : decide (allZ zs) = r) (w : World) (hz : Ints w A zs) (hl : zs.length = n) (hn : n ≤ 2000000) :
    Calls Try.prog 45 #[.slice A n c, .func (.func 46) #[] #[]] w fun e w' => e = .returned (.bool (!r)) ∧ w = w' := by
  go_enter Try.func45, Try.ntmps45
  go_wp2_with fail
  refine (impl_IndexFunc A n c zs w hz hl hn).mono ?_
  rintro e w1 ⟨q, rfl, hq, rfl⟩
  have hd : decide (0 ≤ q) = !r := by
    rw [← hr]
    by_cases h : allZ zs
    · rw [decide_eq_true h, decide_eq_false (fun e => hq.1 e h)]; rfl
    · rw [decide_eq_false h, decide_eq_true (hq.2 h)]; rfl
  have Hd := Lib.hid hd
  clear hq hd
  go_wp2_with fail
  go_ret
  exact ⟨ret_bool Hd.out, rfl⟩
set_option maxRecDepth 100000 in
set_option maxHeartbeats 1000000 in
theorem impl_differences_one (p : Int) (A : Option Addr) (xs : List Int) (w : World) (hx : Ints w A xs) (lx : xs.length = 1) :
    Calls Try.prog 44 #[.int .i64 p, .slice A 1 1] w (MadeI (diffL p xs) w) := by
  have e0 : diffL p xs = [] := by unfold diffL; rw [lx]; rfl
  rw [e0]
  obtain ⟨b, o, rfl, _, _⟩ := hx.at_ (j := 0) (by rw [lx]; omega)
  clear lx e0 hx
  go_enter Try.func44, Try.ntmps44
  go_wp2_with (first | (refine make_list elemInt rfl _ _ rfl w.heap.size _ _ 0 0 rfl rfl (by omega) (by omega) (by unfold maxLen; omega) (Nat.le_refl _) ?_))
  intro w3 hown3 hg3
  have Hg := Lib.hid (Grow.made (Below.refl _ _) hg3 hown3)
  clear hown3 hg3
  go_wp2_with fail
  go_loopw [5, 15] (fun v i wr => i = .int .i64 0 ∧ Grow w wr v 0 []) (fun _ i _ => 0)
  case atStart => exact ⟨rfl, Hg.out⟩
  case round =>
    obtain ⟨rfl, gr⟩ := hrel
    clear Hg
    go_wp2_with fail
    go_ret
    exact gr.done
set_option maxRecDepth 100000 in
set_option maxHeartbeats 1000000 in
theorem impl_differences (p : Int) (A : Option Addr) (n c : Nat) (xs : List Int) (w : World) (hx : Ints w A xs) (lx : xs.length = n) (h1 : 1 ≤ n) (mx : n ≤ 2000000) (hcn : n ≤ c) :
    Calls Try.prog 44 #[.int .i64 p, .slice A n c] w (MadeI (diffL p xs) w) := by
  by_cases hc1 : c = 1
  · subst hc1
    obtain rfl : n = 1 := by omega
    exact impl_differences_one p A xs w hx lx
  have LX := Lib.hid lx
  obtain ⟨m, rfl⟩ : ∃ m, n = m + 1 := ⟨n - 1, by omega⟩
  have e0 : diffL p xs = diffN p xs m := by unfold diffL diffN; rw [lx]; rfl
  rw [e0]
  obtain ⟨b, o, rfl, _, _⟩ := hx.at_ (j := 0) (by rw [lx]; omega)
  have z1 : ((m + 1 : Nat) : Int) - 1 = (m : Int) := by omega
  have z2 : (1 : Int) ≤ ((m + 1 : Nat) : Int) := by omega
  have z3 : ((m + 1 : Nat) : Int) ≤ (c : Int) := by omega
  clear lx e0
  go_enter Try.func44, Try.ntmps44
  go_wp2_with (first | (refine make_list elemInt rfl _ _ rfl w.heap.size _ _ m m rfl rfl (by omega) (by omega) (by unfold maxLen; omega) (Nat.le_refl _) ?_))
  intro w3 hown3 hg3
  have Hg := Lib.hid (Grow.made (Below.refl _ _) hg3 hown3)
  clear hown3 hg3
  go_wp2_with fail
  go_loopw [5, 15] (fun v i wr => ∃ k : Nat, k ≤ m ∧ i = .int .i64 k ∧ Grow w wr v k (diffN p xs k)) (fun _ i _ => m - (intOf i).toNat)
  case atStart => exact ⟨0, Nat.zero_le _, rfl, Hg.out⟩
  case round =>
    obtain ⟨k, hk, rfl, gr⟩ := hrel
    clear Hg
    by_cases hlt : k < m
    · obtain ⟨_, _, e1, _, c0⟩ := (hx.bound.below gr.low).at_ (j := k) (by rw [LX.out]; omega)
      injection e1 with e1
      injection e1 with e2 e3
      subst e2 e3
      obtain ⟨_, _, e1, _, c1⟩ := (hx.bound.below gr.low).at_ (j := k + 1) (by rw [LX.out]; omega)
      injection e1 with e1
      injection e1 with e2 e3
      subst e2 e3
      rw [show o + (k + 1) = o + 1 + k by omega] at c1
      obtain ⟨z, hz⟩ : ∃ z, fsubI p (xs.getD (k + 1) 0) (xs.getD k 0) = z := ⟨_, rfl⟩
      have Hv := Lib.hid (snoc_vals (diffN_is p xs k z hz))
      have Hz := Lib.hid hz
      clear hz
      generalize xs.getD k 0 = vx at c0 Hz
      generalize xs.getD (k + 1) 0 = vy at c1 Hz
      have hk0 : (0 : Int) ≤ k := by omega
      have hk1 : (k : Int) < m := by omega
      have hk2 : (k : Int) < ((m + 1 : Nat) : Int) := by omega
      clear hx
      go_wp2_with fail
      refine (impl_FSub p vy vx wr).mono ?_
      rintro e w4 ⟨rfl, hb⟩
      rw [Hz.out]
      have g4 := (gr.next hb).alloc (.cells #[.int .i64 z] 3)
      clear hb c0 c1 gr
      go_wp2_with (first | (at_builtin; refine app_list (e' := 3) elemInt rfl _ _ rfl w.heap.size _ k (intVals (diffN p xs k)) rfl g4.own w4.heap.size 1 1 _ (0, 0) rfl (heap_alloc_new w4 _) rfl (oneCell_i64 [_]) (by omega) (by unfold maxLen; omega) (by omega) g4.size (w4.heap.size + 1) (by simp) ?_))
      intro g5 c5 w5 ho5 hg5 _ _
      have Hg := Lib.hid (g4.app ho5 hg5 Hv.out)
      clear ho5 hg5 g4
      go_wp2_with fail
      go_roundw
      case rel => exact ⟨k + 1, by omega, by go_num, Hg.out⟩
      case measure => simp [intOf]; omega
    · obtain rfl : k = m := by omega
      go_wp2_with fail
      go_ret
      exact gr.done
end Go.Proofs.Ytcjgoonkdjaccaa
