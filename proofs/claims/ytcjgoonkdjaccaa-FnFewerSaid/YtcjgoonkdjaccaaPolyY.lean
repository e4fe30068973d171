/- The law FnFewer. -/
import Derived.Test.YtcjgoonkdjaccaaProg
import Derived.Test.YtcjgoonkdjaccaaPolyO
import Derived.Test.YtcjgoonkdjaccaaPolyD
namespace Go.Proofs.Ytcjgoonkdjaccaa
open Go Go.RowKit
theorem few31 : ∀ x, x < 3 → ∀ u, u < 3 → cntQ 3 3 [1] [((u : Nat) : Int)] 1 [((x : Nat) : Int)] = 1 ∧ cntQ 3 3 [] [] 1 [((x : Nat) : Int)] = 3 := by decide +kernel
theorem few32 : ∀ x, x < 3 → ∀ u, u < 3 → ∀ v, v < 3 → cntQ 3 3 [1, 2] [((u : Nat) : Int), ((v : Nat) : Int)] 2 [((x : Nat) : Int)] = 1 ∧ cntQ 3 3 [2] [((v : Nat) : Int)] 2 [((x : Nat) : Int)] = 3 := by decide +kernel
theorem few51 : ∀ x, x < 5 → ∀ u, u < 5 → cntQ 5 5 [1] [((u : Nat) : Int)] 1 [((x : Nat) : Int)] = 1 ∧ cntQ 5 5 [] [] 1 [((x : Nat) : Int)] = 5 := by decide +kernel
theorem few52 : ∀ x, x < 5 → ∀ u, u < 5 → ∀ v, v < 5 → cntQ 5 5 [1, 2] [((u : Nat) : Int), ((v : Nat) : Int)] 2 [((x : Nat) : Int)] = 1 ∧ cntQ 5 5 [2] [((v : Nat) : Int)] 2 [((x : Nat) : Int)] = 5 := by decide +kernel
theorem ctI_yes {p x k : Int} {pts vals : List Int} (h : ctOk p x k pts vals) : ctI p x k pts vals = cntQ p p.toNat pts vals k.toNat [x] := if_pos h
theorem few_all {p : Int} (hp : p = 3 ∨ p = 5) {k : Nat} (hk : k = 1 ∨ k = 2) {x u v : Int} (hx : isEl p x) (hu : isEl p u) (hv : isEl p v) :
    ctI p x k (([1, 2] : List Int).take k) ([u, v].take k) = 1 ∧ ctI p x k ((([1, 2] : List Int).take k).drop 1) (([u, v].take k).drop 1) = p := by
  have e1 : isEl p 1 := ⟨hx.1, by omega, by omega⟩
  have e2 : isEl p 2 := ⟨hx.1, by omega, by omega⟩
  obtain ⟨x', rfl⟩ := Int.eq_ofNat_of_zero_le hx.2.1
  obtain ⟨u', rfl⟩ := Int.eq_ofNat_of_zero_le hu.2.1
  obtain ⟨v', rfl⟩ := Int.eq_ofNat_of_zero_le hv.2.1
  have x1 := hx.2.2
  have u1 := hu.2.2
  have v1 := hv.2.2
  have nil : allEl p ([] : List Int) := ⟨hx.1, fun y h => absurd h (by simp)⟩
  have one : ∀ {a : Int}, isEl p a → allEl p [a] := fun h => fsum_one.2 h
  have two : ∀ (a b : Int), isEl p a → isEl p b → allEl p [a, b] := fun a b ha hb => ⟨hx.1, fun y h => by
    rcases List.mem_cons.1 h with e | e
    · rw [e]; exact ha
    · have e' : y = b := by simpa using e
      rw [e']; exact hb⟩
  rcases hk with rfl | rfl
  · have A : ctI p (x' : Int) ((1 : Nat) : Int) [1] [(u' : Int)] = 1 := by
      rw [ctI_yes ⟨hx, by omega, by omega, by simp, by simp, one e1, one hu⟩]
      rcases hp with rfl | rfl
      · exact (few31 x' (by omega) u' (by omega)).1
      · exact (few51 x' (by omega) u' (by omega)).1
    have B : ctI p (x' : Int) ((1 : Nat) : Int) [] [] = p := by
      rw [ctI_yes ⟨hx, by omega, by omega, by simp, by simp, nil, nil⟩]
      rcases hp with rfl | rfl
      · exact (few31 x' (by omega) u' (by omega)).2
      · exact (few51 x' (by omega) u' (by omega)).2
    exact ⟨A, B⟩
  · have A : ctI p (x' : Int) ((2 : Nat) : Int) [1, 2] [(u' : Int), (v' : Int)] = 1 := by
      rw [ctI_yes ⟨hx, by omega, by omega, by simp, by simp, two _ _ e1 e2, two _ _ hu hv⟩]
      rcases hp with rfl | rfl
      · exact (few32 x' (by omega) u' (by omega) v' (by omega)).1
      · exact (few52 x' (by omega) u' (by omega) v' (by omega)).1
    have B : ctI p (x' : Int) ((2 : Nat) : Int) [2] [(v' : Int)] = p := by
      rw [ctI_yes ⟨hx, by omega, by omega, by simp, by simp, one e2, one hv⟩]
      rcases hp with rfl | rfl
      · exact (few32 x' (by omega) u' (by omega) v' (by omega)).2
      · exact (few52 x' (by omega) u' (by omega) v' (by omega)).2
    exact ⟨A, B⟩
theorem ints_two {w : World} {B : Nat} {a b : Int} {T : TypeId} (h : w.heap[B]? = some (.cells #[.int .i64 a, .int .i64 b] T (0, 0))) : Ints w (some ⟨B, 0, none⟩) [a, b] := fun _ =>
  ⟨_, _, rfl, heap_lt h, fun j hj => by
    have : j = 0 ∨ j = 1 := by simp at hj; omega
    rcases this with rfl | rfl
    · exact (blk (i := 0) h rfl).1
    · exact (blk (i := 1) h rfl).1⟩
/-- One of the primes 3 and 5. -/
def pr35 (p : Int) : Prop := p = 3 ∨ p = 5
theorem pr35.isP {p : Int} (h : pr35 p) : isP p := by
  rcases h with rfl | rfl <;> decide +kernel
theorem pr35.le {p : Int} (h : pr35 p) : 3 ≤ p ∧ p ≤ 5 := by unfold pr35 at h; omega
set_option maxHeartbeats 4000000 in
set_option maxRecDepth 100000 in
theorem FnFewer_walk (A : Option Addr) (n c : Nat) (w : World) (hb : Bytes w.heap.size w A n) (hm : n ≤ 9223372036854775807) :
    Calls Try.prog 4 #[.slice A n c] w fun e w' => e = .returned (.bool true) ∧ Below w.heap.size w w' := by
  by_cases hn : 1048576 < n
  · go_enter Try.func4, Try.ntmps4
    go_wp2_with fail
    refine (big_any A n c w true (by simpa using hn) hm).mono ?_
    rintro e w1 ⟨rfl, rfl⟩
    go_wp2_with fail
    go_ret
    exact ⟨rfl, Below.refl _ _⟩
  · have hn' : n ≤ 1048576 := by omega
    go_enter Try.func4, Try.ntmps4
    go_wp2_with fail
    refine (big_any A n c w false (by simpa using hn') hm).mono ?_
    rintro e w1 ⟨rfl, rfl⟩
    go_wp2_with fail
    refine (DrawPlaces_any A n c w hb (by omega)).mono ?_
    rintro e w1 ⟨g, cap, qs, rfl, hl, hpl, hown, low⟩
    have hi := Ints.of_own hown
    have i1 := (hi.below ((Below.refl _ _).alloc (Nat.le_refl _) (.cells #[.int .i64 3, .int .i64 5] 3)))
    replace low := low.alloc low.size (.cells #[.int .i64 3, .int .i64 5] 3)
    have b5 := heap_alloc_new w1 (.cells #[.int .i64 3, .int .i64 5] 3)
    obtain ⟨_, _, e0, _, c0⟩ := i1.at_ (j := 0) (by omega)
    injection e0 with e0
    injection e0 with e00 e01
    subst e00 e01
    obtain ⟨_, _, e0, _, c1⟩ := i1.at_ (j := 1) (by omega)
    injection e0 with e0
    injection e0 with e00 e01
    subst e00 e01
    obtain ⟨_, _, e0, _, c2⟩ := i1.at_ (j := 2) (by omega)
    injection e0 with e0
    injection e0 with e00 e01
    subst e00 e01
    obtain ⟨_, _, e0, _, c3⟩ := i1.at_ (j := 3) (by omega)
    injection e0 with e0
    injection e0 with e00 e01
    subst e00 e01
    have x0 := hpl.at_ (j := 0) (by omega)
    have x1 := hpl.at_ (j := 1) (by omega)
    have x2 := hpl.at_ (j := 2) (by omega)
    have x3 := hpl.at_ (j := 3) (by omega)
    generalize hq0 : qs.getD 0 0 = q0 at c0 x0
    generalize hq1 : qs.getD 1 0 = q1 at c1 x1
    generalize hq2 : qs.getD 2 0 = q2 at c2 x2
    generalize hq3 : qs.getD 3 0 = q3 at c3 x3
    simp only [Nat.zero_add] at c0 c1 c2 c3
    obtain ⟨x00, x01⟩ := x0
    obtain ⟨x10, x11⟩ := x1
    obtain ⟨x20, x21⟩ := x2
    obtain ⟨x30, x31⟩ := x3
    obtain ⟨z, hz⟩ : ∃ z : Nat, (z : Int) = q0 % 2 := ⟨(q0 % 2).toNat, by omega⟩
    obtain ⟨p, hp, hc⟩ : ∃ p : Int, pr35 p ∧ (w1.alloc (.cells #[.int .i64 3, .int .i64 5] 3)).cell? ⟨w1.heap.size, z, none⟩ = some (.int .i64 p) := by
      have : z = 0 ∨ z = 1 := by omega
      rcases this with rfl | rfl
      · exact ⟨3, by unfold pr35; omega, (blk (i := 0) b5 rfl).1⟩
      · exact ⟨5, by unfold pr35; omega, (blk (i := 1) b5 rfl).1⟩
    have z3 : (z : Int) < 2 := by omega
    have hr : q0 % 2 = (z : Int) := hz.symm
    have hple := hp.le
    have hpp := Lib.hid hp.isP
    obtain ⟨p0, p1⟩ := hple
    have pne : ¬ p = 0 := by omega
    have Hp35 := Lib.hid (show p = 3 ∨ p = 5 from hp)
    clear hown hi b5 hz hp
    obtain ⟨k, hk⟩ : ∃ k : Nat, 1 + q1 % 2 = (k : Int) := ⟨(1 + q1 % 2).toNat, by omega⟩
    have hk12 : k = 1 ∨ k = 2 := by omega
    have k1 : (1 : Int) ≤ (k : Int) := by omega
    have k2 : (k : Int) ≤ 2 := by omega
    obtain ⟨u, hu⟩ : ∃ u, q2 % p = u := ⟨_, rfl⟩
    obtain ⟨v, hv⟩ : ∃ v, q3 % p = v := ⟨_, rfl⟩
    have t2 : q2.tmod p = u := by rw [Int.tmod_eq_emod_of_nonneg x20, hu]
    have t3 : q3.tmod p = v := by rw [Int.tmod_eq_emod_of_nonneg x30, hv]
    have eu : isEl p u := by rw [← hu]; exact isEl_mod hpp.out _
    have ev : isEl p v := by rw [← hv]; exact isEl_mod hpp.out _
    have glt := World.block_lt_of_cell? _ _ c2
    have b6 := heap_alloc_new (w1.alloc (.cells #[.int .i64 3, .int .i64 5] 3)) (.cells #[.int .i64 1, .int .i64 2] 3)
    have ba := below_alloc (w1.alloc (.cells #[.int .i64 3, .int .i64 5] 3)) (.cells #[.int .i64 1, .int .i64 2] 3)
    have d2 := (ba.cell (p := ⟨g, 2, none⟩) glt).trans c2
    have d3 := (ba.cell (p := ⟨g, 3, none⟩) glt).trans c3
    clear hu hv
    have b7 := heap_alloc_new ((w1.alloc (.cells #[.int .i64 3, .int .i64 5] 3)).alloc (.cells #[.int .i64 1, .int .i64 2] 3)) (.cells #[.int .i64 u, .int .i64 v] 3)
    replace b6 := heap_alloc b6 (.cells #[.int .i64 u, .int .i64 v] 3)
    replace low := (low_alloc (low_alloc low (.cells #[.int .i64 1, .int .i64 2] 3)) (.cells #[.int .i64 u, .int .i64 v] 3)).drew
    simp only [World.size_alloc] at b6 b7
    go_wp2_with fail
    go_region
    have i6 : Ints (((w1.alloc (.cells #[.int .i64 3, .int .i64 5] 3)).alloc (.cells #[.int .i64 1, .int .i64 2] 3)).alloc (.cells #[.int .i64 u, .int .i64 v] 3)).drew _ [1, 2] := ints_two b6
    have i7 : Ints (((w1.alloc (.cells #[.int .i64 3, .int .i64 5] 3)).alloc (.cells #[.int .i64 1, .int .i64 2] 3)).alloc (.cells #[.int .i64 u, .int .i64 v] 3)).drew _ [u, v] := ints_two b7
    generalize (((w1.alloc (.cells #[.int .i64 3, .int .i64 5] 3)).alloc (.cells #[.int .i64 1, .int .i64 2] 3)).alloc (.cells #[.int .i64 u, .int .i64 v] 3)).drew = W at *
    have j6 := Lib.hid (i6.cut k).bound
    have j7 := Lib.hid (i7.cut k).bound
    have m6 := Lib.hid ((i6.cut k).skip 1).bound
    have m7 := Lib.hid ((i7.cut k).skip 1).bound
    have l6 := Lib.hid (show (([1, 2] : List Int).take k).length = k by simp; omega)
    have l7 := Lib.hid (show (([u, v] : List Int).take k).length = k by simp; omega)
    have n6 := Lib.hid (show ((([1, 2] : List Int).take k).drop 1).length = k - 1 by simp; omega)
    have n7 := Lib.hid (show ((([u, v] : List Int).take k).drop 1).length = k - 1 by simp; omega)
    have Low := Lib.hid low
    have Hk12 := Lib.hid hk12
    have kb : k ≤ 2000000 := by omega
    have kb1 : k - 1 ≤ 2000000 := by omega
    have kc : 1 ≤ k := by omega
    simp only [Nat.zero_add] at m6 m7
    clear i6 i7 b6 b7 ba d2 d3 c0 c1 c2 c3 low hc t2 t3 hr hk hk12 i1 hb hl hpl glt x00 x01 x10 x11 x20 x21 x30 x31 hq0 hq1 hq2 hq3
    go_wp2_with fail
    go_loopw [8] (fun i wr => ∃ x : Nat, (x : Int) ≤ p ∧ i = .int .i64 (x : Int) ∧ Below W.heap.size W wr) (fun i _ => p.toNat - (intOf i).toNat)
    case atStart => exact ⟨0, by omega, rfl, Below.refl _ _⟩
    case round =>
      obtain ⟨x, hxp, rfl, hlow⟩ := hrel
      by_cases hlt : (x : Int) < p
      · have hex : isEl p (x : Int) := ⟨hpp.out, by omega, hlt⟩
        obtain ⟨f1, f2⟩ := few_all Hp35.out Hk12.out hex eu ev
        have R1 := Lib.hid f1
        have R2 := Lib.hid f2
        have x0 : (0 : Int) ≤ (x : Int) := by omega
        have hpr : (p == p) = true := by simp
        replace hlow := hlow.drew
        clear hex f1 f2
        go_wp2_with fail
        go_region_held3 (fun _ => True) (trivial) (first
          | (go_at_call 19; (with_reducible refine (impl_CountPolys p x k (some ⟨w1.heap.size + 1, 0, none⟩) (some ⟨w1.heap.size + 1 + 1, 0, none⟩) k 2 k 2 (([1, 2] : List Int).take k) ([u, v].take k) 1 R1.out _ ((j6.out.below hlow).ints hlow.size) ((j7.out.below hlow).ints hlow.size) l6.out l7.out kb kb).mono ?_); rintro e w6 ⟨rfl, hb⟩; replace hlow := hlow.trans (hb.mono hlow.size); clear hb)
          | (go_at_call 19; (with_reducible refine (impl_CountPolys p x k (some ⟨w1.heap.size + 1, 1, none⟩) (some ⟨w1.heap.size + 1 + 1, 1, none⟩) (k - 1) 1 (k - 1) 1 ((([1, 2] : List Int).take k).drop 1) (([u, v].take k).drop 1) p R2.out _ ((m6.out.below hlow).ints hlow.size) ((m7.out.below hlow).ints hlow.size) n6.out n7.out kb1 kb1).mono ?_); rintro e w6 ⟨rfl, hb⟩; replace hlow := hlow.trans (hb.mono hlow.size); clear hb))
        all_goals
          go_wp2_with fail
          go_roundw
          case rel => exact ⟨x + 1, by omega, by go_num, hlow⟩
          case measure => simp [intOf]; omega
      · have hge : p ≤ (x : Int) := by omega
        go_wp2_with fail
        go_ret
        exact ⟨rfl, Low.out.trans (hlow.mono Low.out.size)⟩
end Go.Proofs.Ytcjgoonkdjaccaa
