/- TossCheat and TossCoin and their models return the same. -/
import Derived.Test.YtedfblgopmiheaaProg
import Derived.Test.YtedfblgopmiheaaCommit
import Derived.Test.YtedfblgopmiheaaSToss
namespace Go.Proofs.Ytedfblgopmiheaa
open Go Go.RowKit
def opensAt (x y z : List Int) (j : Nat) : Prop := opensC (z.getD j 0) (x.getD j 0) (y.getD j 0)
instance (x y z : List Int) (j : Nat) : Decidable (opensAt x y z j) := by unfold opensAt; infer_instance
def opensTo (x y z : List Int) (k : Nat) : Prop := ∀ j, j < k → opensAt x y z j
theorem opensTo_next {x y z : List Int} {k : Nat} (h : opensTo x y z k) (hk : opensAt x y z k) : opensTo x y z (k + 1) := fun j hj => by
  rcases Nat.lt_or_ge j k with h' | h'
  · exact h j h'
  · obtain rfl : j = k := by omega
    exact hk
def sameLen (x y z : List Int) : Prop := y.length = x.length ∧ z.length = x.length
instance (x y z : List Int) : Decidable (sameLen x y z) := by unfold sameLen; infer_instance
def cheatI (x y z : List Int) : Int :=
  if sameLen x y z then (match (List.range x.length).find? (fun j => decide (¬ opensAt x y z j)) with | some j => (j : Int) | none => -1) else -1
theorem cheatI_diff {x y z : List Int} (h : ¬ sameLen x y z) : cheatI x y z = -1 := by rw [cheatI, if_neg h]
theorem cheatI_none {x y z : List Int} (h : opensTo x y z x.length) : cheatI x y z = -1 := by
  rw [cheatI]
  split
  · rw [List.find?_eq_none.2 (fun j hj => by have := h j (List.mem_range.1 hj); simp [this])]
  · rfl
theorem cheatI_at {x y z : List Int} {k : Nat} (hs : sameLen x y z) (hk : k < x.length) (h : opensTo x y z k) (hn : ¬ opensAt x y z k) : cheatI x y z = (k : Int) := by
  rw [cheatI, if_pos hs]
  have e : (List.range x.length).find? (fun j => decide (¬ opensAt x y z j)) = some k := by
    rw [List.find?_range_eq_some]
    exact ⟨by simpa using hn, by simpa using hk, fun j hj => by simpa using h j hj⟩
  rw [e]
theorem cheatI_back {x y z : List Int} (hs : sameLen x y z) (h : cheatI x y z = -1) : opensTo x y z x.length := by
  intro j hj
  by_cases e : opensAt x y z j
  · exact e
  · exfalso
    rw [cheatI, if_pos hs] at h
    rcases hf : (List.range x.length).find? (fun j => decide (¬ opensAt x y z j)) with _ | k
    · have := List.find?_eq_none.1 hf j (List.mem_range.2 hj)
      simp [e] at this
    · rw [hf] at h
      simp at h
def coinN (x : List Int) : Nat → Int
  | 0 => 0
  | k + 1 => xorI (coinN x k) (x.getD k 0)
theorem coinN_next (x : List Int) (k : Nat) : coinN x (k + 1) = xorI (coinN x k) (x.getD k 0) := by rw [coinN]
theorem coinN_word (x : List Int) (k : Nat) : isWord (coinN x k) := by
  cases k with
  | zero => rw [coinN]; unfold isWord; omega
  | succ k => rw [coinN]; exact xorI_word _ _
def tossed (x y z : List Int) : Prop := sameLen x y z ∧ 1 ≤ x.length ∧ x.length ≤ 5 ∧ cheatI x y z = -1
instance (x y z : List Int) : Decidable (tossed x y z) := by unfold tossed; infer_instance
def tossI (x y z : List Int) : Int := if tossed x y z then coinN x x.length else 0
theorem impl_partiesOk (n : Int) (r : Bool) (hr : decide (1 ≤ n ∧ n ≤ 5) = r) (w : World) :
    Calls Try.prog 37 #[.int .i64 n] w fun e w' => e = .returned (.bool r) ∧ w = w' := by
  subst hr
  go_enter Try.func37, Try.ntmps37
  go_wp2
  all_goals go_ret
  all_goals exact ⟨ret_bool (by simp; omega), rfl⟩
theorem impl_sameLengths (A0 A1 A2 : Option Addr) (c0 c1 c2 n0 n1 n2 : Nat) (r : Bool) (hr : decide (n1 = n0 ∧ n2 = n0) = r) (w : World) :
    Calls Try.prog 38 #[.agg #[.slice A0 n0 c0, .slice A1 n1 c1, .slice A2 n2 c2]] w fun e w' => e = .returned (.bool r) ∧ Below w.heap.size w w' := by
  subst hr
  by_cases h1 : n1 = n0
  · subst h1
    by_cases h2 : n2 = n1
    · subst h2
      go_enter Try.func38, Try.ntmps38
      go_wp2_with fail
      go_ret
      exact ⟨ret_bool (by simp), (Below.refl _ _).alloc (Nat.le_refl _) _⟩
    · have e : ((n2 : Int) == (n1 : Int)) = false := beq_eq_false_iff_ne.2 (by omega)
      go_enter Try.func38, Try.ntmps38
      go_wp2_with fail
      go_ret
      exact ⟨ret_bool (by simp [h2]), (Below.refl _ _).alloc (Nat.le_refl _) _⟩
  · have e : ((n1 : Int) == (n0 : Int)) = false := beq_eq_false_iff_ne.2 (by omega)
    go_enter Try.func38, Try.ntmps38
    go_wp2_with fail
    go_ret
    exact ⟨ret_bool (by simp [h1]), (Below.refl _ _).alloc (Nat.le_refl _) _⟩
set_option maxHeartbeats 400000 in
theorem impl_TossCheat (A0 A1 A2 : Option Addr) (c0 c1 c2 n0 n1 n2 : Nat) (x y z : List Int) (w : World) (h0 : Ints w A0 x) (h1 : Ints w A1 y) (h2 : Ints w A2 z) (l0 : x.length = n0) (l1 : y.length = n1) (l2 : z.length = n2) (m0 : n0 ≤ 2000000) :
    Calls Try.prog 18 #[.agg #[.slice A0 n0 c0, .slice A1 n1 c1, .slice A2 n2 c2]] w fun e w' => e = .returned (.int .i64 (cheatI x y z)) ∧ Below w.heap.size w w' := by
  have b0 := heap_alloc_new w (.cells #[.slice A0 n0 c0, .slice A1 n1 c1, .slice A2 n2 c2] 31)
  have k0 : Below w.heap.size w (w.alloc (.cells #[.slice A0 n0 c0, .slice A1 n1 c1, .slice A2 n2 c2] 31)) := (Below.refl _ _).alloc (Nat.le_refl _) _
  have hsl : sameLen x y z ↔ n1 = n0 ∧ n2 = n0 := by unfold sameLen; rw [l0, l1, l2]
  have L0 := Lib.hid l0
  have L1 := Lib.hid l1
  have L2 := Lib.hid l2
  clear l0 l1 l2
  go_enter Try.func18, Try.ntmps18
  go_wp2_with fail
  refine (impl_sameLengths A0 A1 A2 c0 c1 c2 n0 n1 n2 _ rfl _).mono ?_
  rintro e w1 ⟨rfl, hb⟩
  have b1 := heap_below b0 hb
  have k1 := k0.trans (hb.mono k0.size)
  clear hb b0 k0
  obtain ⟨g0, _⟩ := blk (i := 0) b1 rfl
  obtain ⟨g1, _⟩ := blk (i := 1) b1 rfl
  obtain ⟨g2, _⟩ := blk (i := 2) b1 rfl
  by_cases hs : n1 = n0 ∧ n2 = n0
  · rw [decide_eq_true hs]
    have Hs := Lib.hid (hsl.2 hs)
    obtain ⟨rfl, rfl⟩ := hs
    clear hsl
    go_wp2_with fail
    go_loopw [10] (fun i wr => ∃ k : Nat, k ≤ n2 ∧ i = .int .i64 k ∧ Hid (opensTo x y z k) ∧ wr.heap[w.heap.size]? = some (.cells #[.slice A0 n2 c0, .slice A1 n2 c1, .slice A2 n2 c2] 31 (0, 0)) ∧ Below w.heap.size w wr) (fun i _ => n2 - (intOf i).toNat)
    case atStart => exact ⟨0, Nat.zero_le _, rfl, fun j hj => by omega, b1, k1⟩
    case round =>
      obtain ⟨k, hk, rfl, ho, hbx, hbr⟩ := hrel
      clear g0 g1 g2 b1 k1
      by_cases hlt : k < n2
      · obtain ⟨p0, q0, rfl, _, c0⟩ := (h0.bound.below hbr).at_ (j := k) (by rw [L0.out]; exact hlt)
        obtain ⟨p1, q1, rfl, _, c1⟩ := (h1.bound.below hbr).at_ (j := k) (by rw [L1.out]; exact hlt)
        obtain ⟨p2, q2, rfl, _, c2⟩ := (h2.bound.below hbr).at_ (j := k) (by rw [L2.out]; exact hlt)
        obtain ⟨g0, _⟩ := blk (i := 0) hbx rfl
        obtain ⟨g1, _⟩ := blk (i := 1) hbx rfl
        obtain ⟨g2, _⟩ := blk (i := 2) hbx rfl
        have Hbx := Lib.hid hbx
        have hiff : opensAt x y z k ↔ opensC (z.getD k 0) (x.getD k 0) (y.getD k 0) := Iff.rfl
        generalize x.getD k 0 = vx at c0 hiff
        generalize y.getD k 0 = vy at c1 hiff
        generalize z.getD k 0 = vz at c2 hiff
        have hk0 : (0 : Int) ≤ k := by omega
        have hk1 : (k : Int) < n2 := by omega
        clear h0 h1 h2 hbx
        by_cases hop : opensC vz vx vy
        · have Hnext : Hid (opensTo x y z (k + 1)) := opensTo_next ho.out (hiff.2 hop)
          have hd := decide_eq_true hop
          clear hiff hop
          have Hd := Lib.hid hd
          clear hd
          go_wp2_with fail
          go_quiet (first | (go_at_call 14; refine Calls.quiet_of_same ((impl_OpenOk vz vx vy true Hd.out _).mono fun _ _ ⟨he, hw⟩ => ⟨he, hw.symm⟩)))
          go_wp2_with fail
          go_roundw
          case rel => exact ⟨k + 1, by omega, by go_num, Hnext, Hbx.out, below_drewN hbr _⟩
          case measure => simp [intOf]; omega
        · have Hno : Hid (cheatI x y z = (k : Int)) := cheatI_at Hs.out (by rw [L0.out]; exact hlt) ho.out (fun e => hop (hiff.1 e))
          have hd := decide_eq_false hop
          clear hiff hop
          have Hd := Lib.hid hd
          clear hd
          go_wp2_with fail
          go_quiet (first | (go_at_call 14; refine Calls.quiet_of_same ((impl_OpenOk vz vx vy false Hd.out _).mono fun _ _ ⟨he, hw⟩ => ⟨he, hw.symm⟩)))
          go_wp2_with fail
          go_ret
          exact ⟨ret_int Hno.out.symm, below_drewN hbr _⟩
      · obtain rfl : k = n2 := by omega
        have Hno : Hid (cheatI x y z = -1) := cheatI_none (by rw [L0.out]; exact ho.out)
        go_wp2_with fail
        go_ret
        exact ⟨ret_int Hno.out.symm, hbr⟩
  · rw [decide_eq_false hs]
    have Hno : Hid (cheatI x y z = -1) := cheatI_diff (fun e => hs (hsl.1 e))
    clear hsl hs
    go_wp2_with fail
    go_ret
    exact ⟨ret_int Hno.out.symm, k1⟩
/-- The coin is the exclusive or of all values, where all opened what they committed to. -/
def Coined (x y z : List Int) (w : World) (e : Ending) (w' : World) : Prop := e = .returned (.tuple #[.int .i64 (tossI x y z), .bool (decide (tossed x y z))]) ∧ Below w.heap.size w w'
theorem Coined.yes {x y z : List Int} {w w' : World} {r : Int} (h : tossed x y z) (hr : r = coinN x x.length) (hb : Below w.heap.size w w') : Coined x y z w (.returned (.tuple #[.int .i64 r, .bool true])) w' :=
  ⟨by rw [tossI, if_pos h, decide_eq_true h, hr], hb⟩
theorem Coined.no {x y z : List Int} {w w' : World} (h : ¬ tossed x y z) (hb : Below w.heap.size w w') : Coined x y z w (.returned (.tuple #[.int .i64 0, .bool false])) w' :=
  ⟨by rw [tossI, if_neg h, decide_eq_false h], hb⟩
theorem impl_TossCoin (A0 A1 A2 : Option Addr) (c0 c1 c2 n0 n1 n2 : Nat) (x y z : List Int) (w : World) (h0 : Ints w A0 x) (h1 : Ints w A1 y) (h2 : Ints w A2 z) (l0 : x.length = n0) (l1 : y.length = n1) (l2 : z.length = n2) (m0 : n0 ≤ 2000000) :
    Calls Try.prog 17 #[.agg #[.slice A0 n0 c0, .slice A1 n1 c1, .slice A2 n2 c2]] w (Coined x y z w) := by
  have b0 := heap_alloc_new w (.cells #[.slice A0 n0 c0, .slice A1 n1 c1, .slice A2 n2 c2] 31)
  have k0 : Below w.heap.size w (w.alloc (.cells #[.slice A0 n0 c0, .slice A1 n1 c1, .slice A2 n2 c2] 31)) := (Below.refl _ _).alloc (Nat.le_refl _) _
  have hsl : sameLen x y z ↔ n1 = n0 ∧ n2 = n0 := by unfold sameLen; rw [l0, l1, l2]
  have htt : tossed x y z ↔ sameLen x y z ∧ 1 ≤ n0 ∧ n0 ≤ 5 ∧ cheatI x y z = -1 := by unfold tossed; rw [l0]
  have hback : sameLen x y z → cheatI x y z = -1 → ∀ j, j < n0 → isWord (x.getD j 0) := fun hs hc j hj => (cheatI_back hs hc j (by rw [l0]; exact hj)).1.1
  have L0 := Lib.hid l0
  have L1 := Lib.hid l1
  have L2 := Lib.hid l2
  clear l0 l1 l2
  have Hback := Lib.hid hback
  clear hback
  go_enter Try.func17, Try.ntmps17
  go_wp2_with fail
  refine (impl_sameLengths A0 A1 A2 c0 c1 c2 n0 n1 n2 _ rfl _).mono ?_
  rintro e w1 ⟨rfl, hb⟩
  have b1 := heap_below b0 hb
  have k1 := k0.trans (hb.mono k0.size)
  clear hb b0 k0
  obtain ⟨g0, _⟩ := blk (i := 0) b1 rfl
  obtain ⟨g1, _⟩ := blk (i := 1) b1 rfl
  obtain ⟨g2, _⟩ := blk (i := 2) b1 rfl
  by_cases hs : n1 = n0 ∧ n2 = n0
  · rw [decide_eq_true hs]
    have Hs := Lib.hid (hsl.2 hs)
    obtain ⟨rfl, rfl⟩ := hs
    clear hsl
    go_wp2_with fail
    refine (impl_partiesOk n2 _ rfl _).mono ?_
    rintro e w2 ⟨rfl, rfl⟩
    by_cases hp : (1 : Int) ≤ n2 ∧ (n2 : Int) ≤ 5
    · rw [decide_eq_true hp]
      go_wp2_with fail
      refine (impl_TossCheat A0 A1 A2 c0 c1 c2 n2 n2 n2 x y z w1 ((h0.bound.below k1).ints k1.size) ((h1.bound.below k1).ints k1.size) ((h2.bound.below k1).ints k1.size) L0.out L1.out L2.out m0).mono ?_
      rintro e w3 ⟨rfl, hb⟩
      have b3 := heap_below b1 hb
      have k3 := k1.trans (hb.mono k1.size)
      clear hb b1 k1 g0 g1 g2
      obtain ⟨g0, _⟩ := blk (i := 0) b3 rfl
      by_cases hc : cheatI x y z = -1
      · have Hc := Lib.hid hc
        have Ht := Lib.hid (htt.2 ⟨Hs.out, by omega, by omega, hc⟩)
        have hw := Hback.out Hs.out hc
        rw [hc]
        clear hc htt Hback
        have Hw := Lib.hid hw
        clear hw
        go_wp2_with fail
        go_loopw [5, 24] (fun c i wr => ∃ k : Nat, k ≤ n2 ∧ i = .int .i64 k ∧ c = .int .i64 (coinN x k) ∧ wr.heap[w.heap.size]? = some (.cells #[.slice A0 n2 c0, .slice A1 n2 c1, .slice A2 n2 c2] 31 (0, 0)) ∧ Below w.heap.size w wr) (fun _ i _ => n2 - (intOf i).toNat)
        case atStart => exact ⟨0, Nat.zero_le _, rfl, rfl, b3, k3⟩
        case round =>
          obtain ⟨k, hk, rfl, rfl, hbx, hbr⟩ := hrel
          clear g0 b3 k3
          by_cases hlt : k < n2
          · obtain ⟨p0, q0, rfl, _, c0⟩ := (h0.bound.below hbr).at_ (j := k) (by rw [L0.out]; exact hlt)
            obtain ⟨g0, _⟩ := blk (i := 0) hbx rfl
            have Hbx := Lib.hid hbx
            have Hn := Lib.hid (coinN_next x k)
            generalize x.getD k 0 = vx at c0 Hn
            generalize coinN x k = s at Hn ⊢
            have hk0 : (0 : Int) ≤ k := by omega
            have hk1 : (k : Int) < n2 := by omega
            clear h0 h1 h2 hbx
            go_wp2_with fail
            refine (impl_XorWords_is s vx _ Hn.out.symm _).mono ?_
            rintro e w4 ⟨rfl, rfl⟩
            go_wp2_with fail
            go_roundw
            case rel => exact ⟨k + 1, by omega, by go_num, rfl, Hbx.out, hbr⟩
            case measure => simp [intOf]; omega
          · obtain rfl : k = n2 := by omega
            go_wp2_with fail
            go_ret2
            exact Coined.yes Ht.out (by rw [L0.out]) hbr
      · have Hno := Lib.hid (show ¬ tossed x y z from fun e => hc (htt.1 e).2.2.2)
        have hne : (cheatI x y z == -1) = false := beq_eq_false_iff_ne.2 hc
        clear htt hc Hback
        generalize cheatI x y z = cc at hne ⊢
        go_wp2_with fail
        go_ret2
        exact Coined.no Hno.out k3
    · rw [decide_eq_false hp]
      have Hno := Lib.hid (show ¬ tossed x y z from fun e => hp (by have := htt.1 e; omega))
      clear htt hp Hback
      go_wp2_with fail
      go_ret2
      exact Coined.no Hno.out k1
  · rw [decide_eq_false hs]
    have Hno := Lib.hid (show ¬ tossed x y z from fun e => hs (hsl.1 (htt.1 e).1))
    clear hsl hs htt Hback
    go_wp2_with fail
    go_ret2
    exact Coined.no Hno.out k1
theorem spec_l05Same (A0 A1 A2 : Option Addr) (c0 c1 c2 n0 n1 n2 : Nat) (r : Bool) (hr : decide (n1 = n0 ∧ n2 = n0) = r) (w : World) :
    Calls Try.prog 45 #[.agg #[.slice A0 n0 c0, .slice A1 n1 c1, .slice A2 n2 c2]] w fun e w' => e = .returned (.bool r) ∧ Below w.heap.size w w' := by
  subst hr
  by_cases h1 : n1 = n0
  · subst h1
    by_cases h2 : n2 = n1
    · subst h2
      go_enter Try.func45, Try.ntmps45
      go_wp2_with fail
      go_ret
      exact ⟨ret_bool (by simp), (Below.refl _ _).alloc (Nat.le_refl _) _⟩
    · have e : ((n1 : Int) == (n2 : Int)) = false := beq_eq_false_iff_ne.2 (by omega)
      go_enter Try.func45, Try.ntmps45
      go_wp2_with fail
      go_ret
      exact ⟨ret_bool (by simp [h2]), (Below.refl _ _).alloc (Nat.le_refl _) _⟩
  · have e : ((n0 : Int) == (n1 : Int)) = false := beq_eq_false_iff_ne.2 (by omega)
    go_enter Try.func45, Try.ntmps45
    go_wp2_with fail
    go_ret
    exact ⟨ret_bool (by simp [h1]), (Below.refl _ _).alloc (Nat.le_refl _) _⟩
set_option maxHeartbeats 400000 in
theorem spec_TossCheat (A0 A1 A2 : Option Addr) (c0 c1 c2 n0 n1 n2 : Nat) (x y z : List Int) (w : World) (h0 : Ints w A0 x) (h1 : Ints w A1 y) (h2 : Ints w A2 z) (l0 : x.length = n0) (l1 : y.length = n1) (l2 : z.length = n2) (m0 : n0 ≤ 2000000) :
    Calls Try.prog 29 #[.agg #[.slice A0 n0 c0, .slice A1 n1 c1, .slice A2 n2 c2]] w fun e w' => e = .returned (.int .i64 (cheatI x y z)) ∧ Below w.heap.size w w' := by
  have b0 := heap_alloc_new w (.cells #[.slice A0 n0 c0, .slice A1 n1 c1, .slice A2 n2 c2] 31)
  have k0 : Below w.heap.size w (w.alloc (.cells #[.slice A0 n0 c0, .slice A1 n1 c1, .slice A2 n2 c2] 31)) := (Below.refl _ _).alloc (Nat.le_refl _) _
  have hsl : sameLen x y z ↔ n1 = n0 ∧ n2 = n0 := by unfold sameLen; rw [l0, l1, l2]
  have L0 := Lib.hid l0
  have L1 := Lib.hid l1
  have L2 := Lib.hid l2
  clear l0 l1 l2
  have Hsl := Lib.hid hsl
  clear hsl
  go_enter Try.func29, Try.ntmps29
  go_wp2_with fail
  go_loopw [3] (fun i wr => ∃ k : Nat, k ≤ n0 ∧ i = .int .i64 k ∧ Hid (opensTo x y z k) ∧ wr.heap[w.heap.size]? = some (.cells #[.slice A0 n0 c0, .slice A1 n1 c1, .slice A2 n2 c2] 31 (0, 0)) ∧ Below w.heap.size w wr) (fun i _ => n0 - (intOf i).toNat)
  case atStart => exact ⟨0, Nat.zero_le _, rfl, fun j hj => by omega, b0, k0⟩
  case round =>
    obtain ⟨k, hk, rfl, ho, hbx, hbr⟩ := hrel
    clear b0 k0
    obtain ⟨g0, _⟩ := blk (i := 0) hbx rfl
    obtain ⟨g1, _⟩ := blk (i := 1) hbx rfl
    obtain ⟨g2, _⟩ := blk (i := 2) hbx rfl
    by_cases hlt : k < n0
    · have hk0 : (0 : Int) ≤ k := by omega
      have hk1 : (k : Int) < n0 := by omega
      go_wp2_with fail
      refine (spec_l05Same A0 A1 A2 c0 c1 c2 n0 n1 n2 _ rfl _).mono ?_
      rintro e w1 ⟨rfl, hb⟩
      have hbx1 := heap_below hbx hb
      have hbr1 := hbr.trans (hb.mono hbr.size)
      clear hbx hbr hb g0 g1 g2
      by_cases hs : n1 = n0 ∧ n2 = n0
      · rw [decide_eq_true hs]
        have Hs := Lib.hid (Hsl.out.2 hs)
        obtain ⟨rfl, rfl⟩ := hs
        obtain ⟨p0, q0, rfl, _, c0⟩ := (h0.bound.below hbr1).at_ (j := k) (by rw [L0.out]; exact hlt)
        obtain ⟨p1, q1, rfl, _, c1⟩ := (h1.bound.below hbr1).at_ (j := k) (by rw [L1.out]; exact hlt)
        obtain ⟨p2, q2, rfl, _, c2⟩ := (h2.bound.below hbr1).at_ (j := k) (by rw [L2.out]; exact hlt)
        obtain ⟨g0, _⟩ := blk (i := 0) hbx1 rfl
        obtain ⟨g1, _⟩ := blk (i := 1) hbx1 rfl
        obtain ⟨g2, _⟩ := blk (i := 2) hbx1 rfl
        have Hbx := Lib.hid hbx1
        have hiff : opensAt x y z k ↔ opensC (z.getD k 0) (x.getD k 0) (y.getD k 0) := Iff.rfl
        generalize x.getD k 0 = vx at c0 hiff
        generalize y.getD k 0 = vy at c1 hiff
        generalize z.getD k 0 = vz at c2 hiff
        clear h0 h1 h2 hbx1
        by_cases hop : opensC vz vx vy
        · have Hnext : Hid (opensTo x y z (k + 1)) := opensTo_next ho.out (hiff.2 hop)
          have hd := decide_eq_true hop
          clear hiff hop
          have Hd := Lib.hid hd
          clear hd
          go_wp2_with fail
          go_quiet (first | (go_at_call 20; refine Calls.quiet_of_same ((spec_OpenOk vz vx vy true Hd.out _).mono fun _ _ ⟨he, hw⟩ => ⟨he, hw.symm⟩)))
          go_wp2_with fail
          go_roundw
          case rel => exact ⟨k + 1, by omega, by go_num, Hnext, Hbx.out, below_drewN hbr1 _⟩
          case measure => simp [intOf]; omega
        · have Hno : Hid (cheatI x y z = (k : Int)) := cheatI_at Hs.out (by rw [L0.out]; exact hlt) ho.out (fun e => hop (hiff.1 e))
          have hd := decide_eq_false hop
          clear hiff hop
          have Hd := Lib.hid hd
          clear hd
          go_wp2_with fail
          go_quiet (first | (go_at_call 20; refine Calls.quiet_of_same ((spec_OpenOk vz vx vy false Hd.out _).mono fun _ _ ⟨he, hw⟩ => ⟨he, hw.symm⟩)))
          go_wp2_with fail
          go_ret
          exact ⟨ret_int Hno.out.symm, below_drewN hbr1 _⟩
      · rw [decide_eq_false hs]
        have Hno : Hid (cheatI x y z = -1) := cheatI_diff (fun e => hs (Hsl.out.1 e))
        clear hs
        go_wp2_with fail
        go_ret
        exact ⟨ret_int Hno.out.symm, hbr1⟩
    · obtain rfl : k = n0 := by omega
      have Hno : Hid (cheatI x y z = -1) := cheatI_none (by rw [L0.out]; exact ho.out)
      go_wp2_with fail
      go_ret
      exact ⟨ret_int Hno.out.symm, hbr⟩
theorem xor_words {a b r : Int} (ha : isWord a) (hb : isWord b) (h : r = xorI a b) : bits .xor .i64 a b = r := by rw [h]; exact xorI_bits ha hb
theorem spec_TossCoin (A0 A1 A2 : Option Addr) (c0 c1 c2 n0 n1 n2 : Nat) (x y z : List Int) (w : World) (h0 : Ints w A0 x) (h1 : Ints w A1 y) (h2 : Ints w A2 z) (l0 : x.length = n0) (l1 : y.length = n1) (l2 : z.length = n2) (m0 : n0 ≤ 2000000) :
    Calls Try.prog 31 #[.agg #[.slice A0 n0 c0, .slice A1 n1 c1, .slice A2 n2 c2]] w (Coined x y z w) := by
  have b0 := heap_alloc_new w (.cells #[.slice A0 n0 c0, .slice A1 n1 c1, .slice A2 n2 c2] 31)
  have k0 : Below w.heap.size w (w.alloc (.cells #[.slice A0 n0 c0, .slice A1 n1 c1, .slice A2 n2 c2] 31)) := (Below.refl _ _).alloc (Nat.le_refl _) _
  have hsl : sameLen x y z ↔ n1 = n0 ∧ n2 = n0 := by unfold sameLen; rw [l0, l1, l2]
  have htt : tossed x y z ↔ sameLen x y z ∧ 1 ≤ n0 ∧ n0 ≤ 5 ∧ cheatI x y z = -1 := by unfold tossed; rw [l0]
  have hback : sameLen x y z → cheatI x y z = -1 → ∀ j, j < n0 → isWord (x.getD j 0) := fun hs hc j hj => (cheatI_back hs hc j (by rw [l0]; exact hj)).1.1
  have L0 := Lib.hid l0
  have L1 := Lib.hid l1
  have L2 := Lib.hid l2
  clear l0 l1 l2
  have Hback := Lib.hid hback
  clear hback
  go_enter Try.func31, Try.ntmps31
  go_wp2_with fail
  refine (spec_l05Same A0 A1 A2 c0 c1 c2 n0 n1 n2 _ rfl _).mono ?_
  rintro e w1 ⟨rfl, hb⟩
  have b1 := heap_below b0 hb
  have k1 := k0.trans (hb.mono k0.size)
  clear hb b0 k0
  obtain ⟨g0, _⟩ := blk (i := 0) b1 rfl
  obtain ⟨g1, _⟩ := blk (i := 1) b1 rfl
  obtain ⟨g2, _⟩ := blk (i := 2) b1 rfl
  by_cases hs : n1 = n0 ∧ n2 = n0
  · rw [decide_eq_true hs]
    have Hs := Lib.hid (hsl.2 hs)
    obtain ⟨rfl, rfl⟩ := hs
    clear hsl
    go_wp2_with fail
    refine (l01In_is n2 1 5 _ rfl _).mono ?_
    rintro e w2 ⟨rfl, rfl⟩
    by_cases hp : (1 : Int) ≤ n2 ∧ (n2 : Int) ≤ 5
    · rw [decide_eq_true hp]
      go_wp2_with fail
      refine (spec_TossCheat A0 A1 A2 c0 c1 c2 n2 n2 n2 x y z w1 ((h0.bound.below k1).ints k1.size) ((h1.bound.below k1).ints k1.size) ((h2.bound.below k1).ints k1.size) L0.out L1.out L2.out m0).mono ?_
      rintro e w3 ⟨rfl, hb⟩
      have b3 := heap_below b1 hb
      have k3 := k1.trans (hb.mono k1.size)
      clear hb b1 k1 g0 g1 g2
      obtain ⟨g0, _⟩ := blk (i := 0) b3 rfl
      by_cases hc : cheatI x y z = -1
      · have Hc := Lib.hid hc
        have Ht := Lib.hid (htt.2 ⟨Hs.out, by omega, by omega, hc⟩)
        have hw := Hback.out Hs.out hc
        rw [hc]
        clear hc htt Hback
        have Hw := Lib.hid hw
        clear hw
        go_wp2_with fail
        go_loopw [4, 5] (fun c i wr => ∃ k : Nat, k ≤ n2 ∧ i = .int .i64 k ∧ c = .int .i64 (coinN x k) ∧ wr.heap[w.heap.size]? = some (.cells #[.slice A0 n2 c0, .slice A1 n2 c1, .slice A2 n2 c2] 31 (0, 0)) ∧ Below w.heap.size w wr) (fun _ i _ => n2 - (intOf i).toNat)
        case atStart => exact ⟨0, Nat.zero_le _, rfl, rfl, b3, k3⟩
        case round =>
          obtain ⟨k, hk, rfl, rfl, hbx, hbr⟩ := hrel
          clear g0 b3 k3
          obtain ⟨g0, _⟩ := blk (i := 0) hbx rfl
          by_cases hlt : k < n2
          · obtain ⟨p0, q0, rfl, _, c0⟩ := (h0.bound.below hbr).at_ (j := k) (by rw [L0.out]; exact hlt)
            have Hbx := Lib.hid hbx
            have Hn := Lib.hid (xor_words (coinN_word x k) (Hw.out k hlt) (coinN_next x k))
            generalize x.getD k 0 = vx at c0 Hn
            have hk0 : (0 : Int) ≤ k := by omega
            have hk1 : (k : Int) < n2 := by omega
            clear h0 h1 h2 hbx
            go_wp2_with fail
            go_roundw
            case rel => exact ⟨k + 1, by omega, by go_num, by rw [Hn.out], Hbx.out, hbr⟩
            case measure => simp [intOf]; omega
          · obtain rfl : k = n2 := by omega
            go_wp2_with fail
            go_ret2
            exact Coined.yes Ht.out (by rw [L0.out]) hbr
      · have Hno := Lib.hid (show ¬ tossed x y z from fun e => hc (htt.1 e).2.2.2)
        have hne : (cheatI x y z == -1) = false := beq_eq_false_iff_ne.2 hc
        clear htt hc Hback
        generalize cheatI x y z = cc at hne ⊢
        go_wp2_with fail
        go_ret2
        exact Coined.no Hno.out k3
    · rw [decide_eq_false hp]
      have Hno := Lib.hid (show ¬ tossed x y z from fun e => hp (by have := htt.1 e; omega))
      clear htt hp Hback
      go_wp2_with fail
      go_ret2
      exact Coined.no Hno.out k1
  · rw [decide_eq_false hs]
    have Hno := Lib.hid (show ¬ tossed x y z from fun e => hs (hsl.1 (htt.1 e).1))
    clear hsl hs htt Hback
    go_wp2_with fail
    go_ret2
    exact Coined.no Hno.out k1
end Go.Proofs.Ytedfblgopmiheaa
