/- The law FnAllButOne. -/
import Derived.Test.YtjhgjfipfjackaaProg
import Derived.Test.YtjhgjfipfjackaaShareC
import Derived.Test.YtjhgjfipfjackaaGrow
import Derived.Test.YtjhgjfipfjackaaFieldW
import Derived.Test.YtjhgjfipfjackaaApp
namespace Go.Proofs.Ytjhgjfipfjackaa
open Go Go.RowKit
/-- One of the primes 2, 3 and 5. -/
def small3 (p : Int) : Prop := p = 2 ∨ p = 3 ∨ p = 5
theorem small3.isP {p : Int} (h : small3 p) : isP p := by
  rcases h with rfl | rfl | rfl <;> decide +kernel
theorem small3.le {p : Int} (h : small3 p) : 2 ≤ p ∧ p ≤ 5 := by unfold small3 at h; omega
/-- The view: numbers below p. -/
def viewN (p : Int) (qs : List Int) (k : Nat) : List Int := (List.range k).map fun i => qs.getD (2 + i) 0 % p
theorem viewN_length (p : Int) (qs : List Int) (k : Nat) : (viewN p qs k).length = k := by simp [viewN]
theorem viewN_is (p : Int) (qs : List Int) (k : Nat) (z : Int) (h : qs.getD (2 + k) 0 % p = z) : viewN p qs (k + 1) = viewN p qs k ++ [z] := by
  subst h; simp [viewN, List.range_succ]
theorem viewN_el {p : Int} (hp : isP p) (qs : List Int) (k : Nat) : allEl p (viewN p qs k) := by
  refine ⟨hp, fun x hx => ?_⟩
  obtain ⟨i, _, rfl⟩ := List.mem_map.1 hx
  exact isEl_mod hp _
theorem count_one {p x n : Int} {v : List Int} (hx : isEl p x) (hp : p ≤ 13) (hn : 2 ≤ n ∧ n ≤ 4) (hv : allEl p v) (hl : (v.length : Int) + 1 = n) : countI p x n v = 1 := by
  unfold countI
  rw [if_pos ⟨hx, by omega, by omega, hv, hp⟩, show (n - (v.length : Int)).toNat = 0 + 1 by omega]
  rfl
theorem count_p {p x n : Int} {v : List Int} (hx : isEl p x) (hp : p ≤ 13) (hn : 2 ≤ n ∧ n ≤ 4) (hv : allEl p v) (hl : (v.length : Int) + 2 = n) : countI p x n v = p := by
  unfold countI
  rw [if_pos ⟨hx, by omega, by omega, hv, hp⟩, show (n - (v.length : Int)).toNat = 1 + 1 by omega]
  show pwI p 1 = p
  rw [pwI_next]; simp [pwI]
theorem drop_el {p : Int} {v : List Int} (h : allEl p v) : allEl p (v.drop 1) := ⟨h.1, fun x hx => h.2 x (List.mem_of_mem_drop hx)⟩
/-- v[1:] of a list of the call's own. -/
theorem ints_drop {w wr : World} {k c g : Nat} {zs : List Int} (h : Grow w wr (.slice (some ⟨g, 0, none⟩) k c) k zs) : Ints wr (some ⟨g, 1, none⟩) (zs.drop 1) := fun h0 => by
  have hl := h.len
  have h1 : 1 < k := by rw [List.length_drop] at h0; omega
  obtain ⟨g', e, _, hlt⟩ := h.addr (by omega)
  injection e with e
  injection e with e
  subst e
  refine ⟨g, 1, rfl, hlt, fun j hj => ?_⟩
  rw [List.length_drop] at hj
  rw [(h.at_ (j := 1 + j) (by omega)).1]
  simp [List.getD_eq_getElem?_getD, Nat.add_comm]
theorem ints_empty (w : World) (A : Option Addr) {zs : List Int} (h : zs.length ≤ 1) : Ints w A (zs.drop 1) := fun h0 => by rw [List.length_drop] at h0; omega
theorem grow_cap {w wr : World} {A : Option Addr} {k c : Nat} {zs : List Int} (h : Grow w wr (.slice A k c) k zs) : k ≤ c := by
  rcases h.own.2 with ⟨e, h0⟩ | ⟨g, cap, cur, e, _, _, hnc, _⟩
  · omega
  · injection e with _ _ e; omega
set_option maxHeartbeats 1000000 in
theorem FnAllButOne_walk (A : Option Addr) (n c : Nat) (w : World) (hb : Bytes w.heap.size w A n) (hm : n ≤ 9223372036854775807) :
    Calls Try.prog 4 #[.slice A n c] w fun e w' => e = .returned (.bool true) ∧ Below w.heap.size w w' := by
  by_cases hn : 1048576 < n
  · go_enter Try.func4, Try.ntmps4
    go_wp2_with fail
    refine (big_any A n c w true (by simpa using hn) hm).mono ?_
    rintro e w1 ⟨rfl, rfl⟩
    go_wp2_with fail
    go_ret
    exact ⟨rfl, Below.refl _ _⟩
  · have hn' : n ≤ 1048576 := by omega
    go_enter Try.func4, Try.ntmps4
    go_wp2_with fail
    refine (big_any A n c w false (by simpa using hn') hm).mono ?_
    rintro e w1 ⟨rfl, rfl⟩
    go_wp2_with fail
    refine (DrawPlaces_any A n c w hb (by omega)).mono ?_
    rintro e w1 ⟨g, cap, qs, rfl, hl, hpl, hown, low⟩
    have hi := Ints.of_own hown
    have i1 := (hi.below ((Below.refl _ _).alloc (Nat.le_refl _) (.cells #[.int .i64 2, .int .i64 3, .int .i64 5] 3)))
    replace low := low.alloc low.size (.cells #[.int .i64 2, .int .i64 3, .int .i64 5] 3)
    have b5 := heap_alloc_new w1 (.cells #[.int .i64 2, .int .i64 3, .int .i64 5] 3)
    obtain ⟨_, _, e0, _, c0⟩ := i1.at_ (j := 0) (by omega)
    injection e0 with e0
    injection e0 with e00 e01
    subst e00 e01
    obtain ⟨_, _, e0, _, c1⟩ := i1.at_ (j := 1) (by omega)
    injection e0 with e0
    injection e0 with e00 e01
    subst e00 e01
    have x0 := hpl.at_ (j := 0) (by omega)
    have x1 := hpl.at_ (j := 1) (by omega)
    generalize qs.getD 0 0 = q0 at c0 x0
    generalize qs.getD 1 0 = q1 at c1 x1
    simp only [Nat.zero_add] at c0 c1
    obtain ⟨x00, x01⟩ := x0
    obtain ⟨x10, x11⟩ := x1
    obtain ⟨k, hk⟩ : ∃ k : Nat, (k : Int) = q0 % 3 := ⟨(q0 % 3).toNat, by omega⟩
    obtain ⟨p, hp, hc⟩ : ∃ p : Int, small3 p ∧ (w1.alloc (.cells #[.int .i64 2, .int .i64 3, .int .i64 5] 3)).cell? ⟨w1.heap.size, k, none⟩ = some (.int .i64 p) := by
      have : k = 0 ∨ k = 1 ∨ k = 2 := by omega
      rcases this with rfl | rfl | rfl
      · exact ⟨2, .inl rfl, (blk (i := 0) b5 rfl).1⟩
      · exact ⟨3, .inr (.inl rfl), (blk (i := 1) b5 rfl).1⟩
      · exact ⟨5, .inr (.inr rfl), (blk (i := 2) b5 rfl).1⟩
    clear hown hi hm hn hn' b5 hb
    have Hl := Lib.hid hl
    have Hk := Lib.hid hk
    have k3 : (k : Int) < 3 := by omega
    have hr : q0 % 3 = (k : Int) := hk.symm
    clear hl hk
    go_wp2_with fail
    have gr : Grow (w1.alloc (.cells #[.int .i64 2, .int .i64 3, .int .i64 5] 3)) ((w1.alloc (.cells #[.int .i64 2, .int .i64 3, .int .i64 5] 3)).alloc (.cells #[] 3)) (.slice (some ⟨w1.heap.size + 1, 0, none⟩) 0 0) 0 [] := by
      simpa using Grow.empty (Below.refl (w1.alloc (.cells #[.int .i64 2, .int .i64 3, .int .i64 5] 3)).heap.size (w1.alloc (.cells #[.int .i64 2, .int .i64 3, .int .i64 5] 3)))
    replace i1 := i1.bound
    generalize hg : w1.alloc (.cells #[.int .i64 2, .int .i64 3, .int .i64 5] 3) = w2 at *
    have hn2 : 2 ≤ 2 + q1 % 3 ∧ 2 + q1 % 3 ≤ 4 := by omega
    generalize 2 + q1 % 3 = nn at *
    obtain ⟨m, hm⟩ : ∃ m : Nat, (m : Int) + 1 = nn := ⟨(nn - 1).toNat, by omega⟩
    have m0 : (m : Int) ≤ nn - 1 := by omega
    have m1 : nn - 1 ≤ (m : Int) := by omega
    have m3 : m ≤ 3 := by omega
    have Hm := Lib.hid hm
    have hpl' := hp.le
    obtain ⟨p0, p1⟩ := hpl'
    have pne : ¬ p = 0 := by omega
    obtain ⟨hn20, hn24⟩ := hn2
    have Gr := Lib.hid gr
    have Hp := Lib.hid hp
    clear gr hg hm hr c0 c1 hc Hk hp
    go_loopw [6, 7] (fun v i wr => ∃ j : Nat, j ≤ m ∧ i = .int .i64 j ∧ Grow w2 wr v j (viewN p qs j)) (fun _ i _ => m - (intOf i).toNat)
    case atStart => exact ⟨0, Nat.zero_le _, rfl, Gr.out⟩
    case round =>
      obtain ⟨j, hj, rfl, gr⟩ := hrel
      clear Gr
      by_cases hlt : j < m
      · obtain ⟨_, _, e0, _, c0⟩ := (i1.below gr.low).at_ (j := 2 + j) (by rw [Hl.out]; omega)
        injection e0 with e0
        injection e0 with e00 e01
        subst e00 e01
        have x2 := hpl.at_ (j := 2 + j) (by rw [Hl.out]; omega)
        obtain ⟨z, hz⟩ : ∃ z, qs.getD (2 + j) 0 % p = z := ⟨_, rfl⟩
        have Hv := Lib.hid (snoc_vals (viewN_is p qs j z hz))
        simp only [Nat.zero_add] at c0
        generalize qs.getD (2 + j) 0 = q2 at c0 x2 hz
        have hj0 : (0 : Int) ≤ j := by omega
        have hj1 : (j : Int) < nn - 1 := by omega
        have hj2 : (2 : Int) + j < 12 := by omega
        obtain ⟨x20, x21⟩ := x2
        have g4 := gr.alloc (.cells #[.int .i64 z] 3)
        have hzz : q2.tmod p = z := by rw [← hz]; exact Int.tmod_eq_emod_of_nonneg x20
        have Hi1 := Lib.hid i1
        have Hlow := Lib.hid low
        clear gr i1 low
        go_wp2_with (first | (at_builtin; refine app_list (e' := 3) elemInt rfl _ _ rfl w2.heap.size _ j (intVals (viewN p qs j)) rfl g4.own wr.heap.size 1 1 _ (0, 0) rfl (heap_alloc_new wr _) rfl (oneCell_i64 [_]) (by omega) (by unfold maxLen; omega) (by omega) g4.size (wr.heap.size + 1) (by simp) ?_))
        intro g5 c5 w5 ho5 hg5 _ _
        have Hg := Lib.hid (g4.app ho5 hg5 Hv.out)
        clear ho5 hg5 g4
        go_wp2_with fail
        go_roundw
        case rel => exact ⟨j + 1, by omega, by go_num, Hg.out⟩
        case measure => simp [intOf]; omega
      · obtain rfl : j = m := by omega
        obtain ⟨A2, jj, c2, rfl, rfl⟩ := ownsRow_slice gr.own
        have hge : nn - 1 ≤ (j : Int) := by omega
        obtain ⟨g2, rfl, hg2, _⟩ := gr.addr (by omega)
        have hcap := grow_cap gr
        have el := viewN_el Hp.out.isP qs j
        have lv := viewN_length p qs j
        generalize viewN p qs j = zs at *
        have Hl2 := Lib.hid lv
        have Hel := Lib.hid el
        have Low := Lib.hid low
        have Gr := Lib.hid gr
        clear el lv low gr i1
        go_wp2_with fail
        go_loopw [8] (fun i wr => ∃ x : Nat, (x : Int) ≤ p ∧ i = .int .i64 x ∧ Grow w2 wr (.slice (some ⟨g2, 0, none⟩) j c2) j zs) (fun i _ => p.toNat - (intOf i).toNat)
        case atStart => exact ⟨0, by omega, rfl, Gr.out⟩
        case round =>
          obtain ⟨x, hx, rfl, gr⟩ := hrel
          clear Gr
          by_cases hlt2 : (x : Int) < p
          · have hex : isEl p (x : Int) := ⟨Hp.out.isP, by omega, hlt2⟩
            have hnn2 : 2 ≤ nn ∧ nn ≤ 4 := ⟨hn20, hn24⟩
            have R1 := Lib.hid (count_one hex (by omega) hnn2 Hel.out (by rw [Hl2.out]; omega))
            have R2 := Lib.hid (count_p (v := zs.drop 1) hex (by omega) hnn2 (drop_el Hel.out) (by rw [List.length_drop, Hl2.out]; omega))
            have hi := gr.own
            have hl3 : (zs.drop 1).length = j - 1 := by rw [List.length_drop, Hl2.out]
            have Hl3 := Lib.hid hl3
            have hiv := Ints.of_own gr.own
            have hx0 : (0 : Int) ≤ x := by omega
            clear hex hnn2 hl3
            go_wp2_with fail
            refine (impl_CountSharings p x nn 1 _ j c2 zs R1.out wr hiv Hl2.out (by omega)).mono ?_
            rintro e w6 ⟨rfl, hb6⟩
            have g6 := gr.next hb6
            have hid := ints_drop g6
            have hie := fun A (h : zs.length ≤ 1) => ints_empty w6 A h
            have Hie := Lib.hid hie
            clear hie gr hb6 hiv hi
            by_cases hcc : c2 = 1
            · have hj1 : j = 1 := by omega
              subst hcc hj1
              go_wp2_with fail
              refine (impl_CountSharings p x nn p _ _ _ (zs.drop 1) R2.out w6 (Hie.out _ (by rw [Hl2.out]; exact Nat.le_refl 1)) Hl3.out (by omega)).mono ?_
              rintro e w7 ⟨rfl, hb7⟩
              have Hg := Lib.hid (g6.next hb7)
              clear g6 hid hb7
              go_wp2_with fail
              go_roundw
              case rel => first | exact ⟨x + 1, by omega, by go_num, Hg.out⟩ | ((repeat apply Exists.intro); exact ⟨⟨x + 1, by omega, by go_num, Hg.out⟩, rfl⟩)
              case measure => simp [intOf]; omega
            · have hcc' : ¬ c2 - 1 = 0 := by omega
              have hcc2 : 1 < c2 := by omega
              go_wp2_with fail
              refine (impl_CountSharings p x nn p (some ⟨g2, 1, none⟩) _ _ (zs.drop 1) R2.out w6 hid Hl3.out (by omega)).mono ?_
              rintro e w7 ⟨rfl, hb7⟩
              have Hg := Lib.hid (g6.next hb7)
              clear g6 hid hb7
              go_wp2_with fail
              go_roundw
              case rel => exact ⟨x + 1, by omega, by go_num, Hg.out⟩
              case measure => simp [intOf]; omega
          · have hge2 : p ≤ (x : Int) := by omega
            have Hl9 := Lib.hid (Low.out.trans (gr.low.mono Low.out.size))
            clear gr
            go_wp2_with fail
            go_ret
            exact ⟨rfl, Hl9.out⟩
end Go.Proofs.Ytjhgjfipfjackaa
