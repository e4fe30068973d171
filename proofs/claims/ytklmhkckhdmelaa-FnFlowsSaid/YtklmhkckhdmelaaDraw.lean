/- The draws: a cursor, a byte from 0 to 255, a number below n. -/
import Derived.Test.YtklmhkckhdmelaaProg
import Derived.Test.YtklmhkckhdmelaaKit
import Derived.IntWalk
namespace Go.Proofs.Ytklmhkckhdmelaa
open Go Go.RowKit

theorem newCur_mk (T : TypeId) (A : Option Addr) (n c : Nat) (x : Int) (w : World) (hb : Bytes w.heap.size w A n) (hn : n ≤ 2000000) :
    NewCur T w (.returned (.pointer (some ⟨w.heap.size, 0, none⟩))) (w.alloc (.cells #[.slice A n c, .int .i64 0, .int .i64 x] T)) :=
  ⟨w.heap.size, rfl, ⟨Nat.le_refl _, A, n, c, 0, x, heap_alloc_new w _, Nat.zero_le _, hn, hb.keep fun k hk => Below.heap_alloc w _ k hk⟩, (Below.refl _ _).alloc (Nat.le_refl _) _⟩

set_option maxRecDepth 100000 in
theorem l01New_any (A : Option Addr) (n c : Nat) (w : World) (hb : Bytes w.heap.size w A n) (hn : n ≤ 2000000) :
    Calls Try.prog 35 #[.slice A n c] w (NewCur 89 w) := by
  go_enter Try.func35, Try.ntmps35
  go_wp2
  go_loop [3, 4] (fun h i => ∃ (k : Nat) (x : Int), k ≤ n ∧ i = .int .i64 k ∧ h = .int .i64 x) (fun _ i => n - (intOf i).toNat)
  case atStart => exact ⟨0, _, Nat.zero_le _, rfl, rfl⟩
  case round =>
    obtain ⟨k, x, hk, rfl, rfl⟩ := hrel
    by_cases hlt : k < n
    · by_cases h4 : k < 4000
      · obtain ⟨b, o, rfl, hbb, hcell⟩ := hb (by omega)
        obtain ⟨z, hz0, hz1, hz⟩ := hcell k hlt
        have hk0 : (0 : Int) ≤ k := by omega
        clear hcell hb
        go_wp2_with fail
        go_round
        case rel => exact ⟨k + 1, _, by omega, by go_num, rfl⟩
        case measure => simp [intOf]; omega
      · go_wp2
        go_ret
        exact newCur_mk _ A n c x w hb hn
    · go_wp2
      go_ret
      exact newCur_mk _ A n c x w hb hn

/-- A byte that is drawn. -/
theorem l01Byte_any (B g : Nat) (w : World) (hc : Cur 89 B w g) :
    Calls Try.prog 63 #[.pointer (some ⟨g, 0, none⟩)] w (Drawn 89 B g (fun x => 0 ≤ x ∧ x ≤ 255) w) := by
  obtain ⟨hB, A, n, c, i, h, hg, hi, hn, hb⟩ := hc
  have c0 : w.cell? ⟨g, 0, none⟩ = some (.slice A n c) := by simp [World.cell?, hg]
  have c1 : w.cell? ⟨g, 1, none⟩ = some (.int .i64 (i : Int)) := by simp [World.cell?, hg]
  have c2 : w.cell? ⟨g, 2, none⟩ = some (.int .i64 h) := by simp [World.cell?, hg]
  have f1 : w.frozen? ⟨g, 1, none⟩ = false := by simp [World.frozen?, hg]
  have f2 : w.frozen? ⟨g, 2, none⟩ = false := by simp [World.frozen?, hg]
  have hgl : g < w.heap.size := (Array.getElem?_eq_some_iff.1 hg).1
  have Hg := Lib.hid hg
  have Hb := Lib.hid hb
  clear hg
  by_cases hlt : i < n
  · obtain ⟨b, o, rfl, hbb, hcell⟩ := hb (by omega)
    obtain ⟨z, hz0, hz1, hz⟩ := hcell i hlt
    have hne : b ≠ g := by omega
    have hne' : g ≠ b := by omega
    have hi0 : (0 : Int) ≤ i := by omega
    have hin : (i : Int) < n := by omega
    clear hcell hb
    go_enter Try.func63, Try.ntmps63
    go_wp2_with fail
    go_quiet (fail)
    go_wp2_with fail
    go_quiet (fail)
    go_wp2_with fail
    go_quiet (fail)
    go_wp2_with fail
    go_ret
    refine ⟨_, rfl, and_range _ 255 (by omega), ?_, ?_⟩
    · exact Cur.of_ (i := i + 1) hB Hb.out (by omega) hn (heap_set (heap_set Hg.out _) _) ((grownBy_drewN (grownBy_set w g 2 _) _).trans (grownBy_set _ g 1 _)) hgl
    · exact ((grownBy_drewN (grownBy_set w g 2 _) _).trans (grownBy_set _ g 1 _))
  · clear hb
    go_enter Try.func63, Try.ntmps63
    go_wp2_with fail
    go_quiet (fail)
    go_wp2_with fail
    go_quiet (fail)
    go_wp2_with fail
    go_ret
    refine ⟨_, rfl, and_range _ 255 (by omega), ?_, ?_⟩
    · exact Cur.of_ hB Hb.out hi hn (heap_set Hg.out _) (grownBy_drewN (grownBy_drewN (grownBy_set w g 2 _) _) _) hgl
    · exact grownBy_drewN (grownBy_drewN (grownBy_set w g 2 _) _) _

def isBelow (n x : Int) : Prop := (n ≤ 0 → x = 0) ∧ (0 < n → 0 ≤ x ∧ x < n)

theorem drawn_zero {T : TypeId} {B g : Nat} {w : World} {n : Int} (hc : Cur T B w g) (hn : n ≤ 0) : Drawn T B g (isBelow n) w (.returned (.int .i64 0)) w :=
  ⟨0, rfl, ⟨fun _ => rfl, fun h => by omega⟩, hc, World.grownBy.refl w _⟩

theorem l01Below_any (B g : Nat) (n : Int) (w : World) (hc : Cur 89 B w g) :
    Calls Try.prog 51 #[.pointer (some ⟨g, 0, none⟩), .int .i64 n] w (Drawn 89 B g (isBelow n) w) := by
  by_cases h0 : n ≤ 0
  · go_enter Try.func51, Try.ntmps51
    go_wp2_with fail
    go_ret
    exact drawn_zero hc h0
  · by_cases h1 : n ≤ 256
    · have hp : 0 < n := by omega
      have hp1 : 1 ≤ n := by omega
      go_enter Try.func51, Try.ntmps51
      go_wp2_with fail
      refine (l01Byte_any B g w hc).mono ?_
      rintro e w1 ⟨x, rfl, ⟨hx0, hx1⟩, hc1, hg1⟩
      have hnn : n ≠ 0 := by omega
      go_wp2_with fail
      go_ret
      exact ⟨_, rfl, ⟨fun h => by omega, fun _ => ⟨Int.emod_nonneg _ hnn, Int.emod_lt_of_pos _ hp⟩⟩, hc1, hg1⟩
    · have hp : 0 < n := by omega
      have hp1 : 1 ≤ n := by omega
      go_enter Try.func51, Try.ntmps51
      go_wp2_with fail
      refine (l01Byte_any B g w hc).mono ?_
      rintro e w1 ⟨x, rfl, ⟨hx0, hx1⟩, hc1, hg1⟩
      go_wp2_with fail
      refine (l01Byte_any B g w1 hc1).mono ?_
      rintro e w2 ⟨y, rfl, ⟨hy0, hy1⟩, hc2, hg2⟩
      go_wp2_with fail
      refine (l01Byte_any B g w2 hc2).mono ?_
      rintro e w3 ⟨z, rfl, ⟨hz0, hz1⟩, hc3, hg3⟩
      go_wp2_with fail
      refine (l01Byte_any B g w3 hc3).mono ?_
      rintro e w4 ⟨u, rfl, ⟨hu0, hu1⟩, hc4, hg4⟩
      have hnn : n ≠ 0 := by omega
      go_wp2_with fail
      go_ret
      exact ⟨_, rfl, ⟨fun h => by omega, fun _ => ⟨Int.emod_nonneg _ hnn, Int.emod_lt_of_pos _ hp⟩⟩, hc4, ((hg1.trans hg2).trans hg3).trans hg4⟩

theorem l01Once_any (B g : Nat) (n : Int) (w : World) (hc : Cur 89 B w g) :
    Calls Try.prog 61 #[.pointer (some ⟨g, 0, none⟩), .int .i64 n] w (DrawnBool 89 B g w) := by
  go_enter Try.func61, Try.ntmps61
  go_wp2_with fail
  refine (l01Below_any B g n w hc).mono ?_
  rintro e w1 ⟨x, rfl, hx, hc1, hg1⟩
  go_wp2_with fail
  go_ret
  exact ⟨_, rfl, hc1, hg1⟩


theorem l01In_is (x lo hi : Int) (b : Bool) (h : decide (lo ≤ x ∧ x ≤ hi) = b) (w : World) :
    Calls Try.prog 55 #[.int .i64 x, .int .i64 lo, .int .i64 hi] w fun e w' => e = .returned (.bool b) ∧ w = w' := by
  subst h
  go_enter Try.func55, Try.ntmps55
  go_wp2
  all_goals go_ret
  all_goals exact ⟨ret_bool (by simp; omega), rfl⟩
theorem big_any (A : Option Addr) (n c : Nat) (w : World) (r : Bool) (hr : decide (1048576 < n) = r) (hn : n ≤ 9223372036854775807) :
    Calls Try.prog 8 #[.slice A n c] w fun e w' => e = .returned (.bool r) ∧ w = w' := by
  go_enter Try.func8, Try.ntmps8
  go_wp2
  go_ret
  exact ⟨ret_bool (by rw [← hr]; simp; omega), rfl⟩
def figB (x : Nat) : UInt8 := UInt8.ofNat (if x < 10 then 48 + x else 87 + x)
theorem grown_own {w w1 w2 : World} {g base n size : Nat} {e : TypeId} {v : Value} {xs : List Value} (h : w.grownBy w1 (some g)) (hown : w1.ownsRow base e size v n xs) (hg : w1.grownBy w2 v.ownBlock) (hb : w.heap.size ≤ base) : w.grownBy w2 (some g) :=
  ⟨hg.os.trans h.os, hg.tape.trans h.tape, hg.output.trans h.output, Nat.le_trans h.size hg.size, fun k hk hne => (hg.block k (Nat.lt_of_lt_of_le hk h.size) (fun e => by have := (hown.lt k e.symm).1; omega)).trans (h.block k hk hne)⟩
theorem grown_below {w w1 w2 : World} {g : Nat} (h : w.grownBy w1 (some g)) (hb : Below w1.heap.size w1 w2) : w.grownBy w2 (some g) :=
  ⟨hb.os.trans h.os, hb.tape.trans h.tape, hb.output.trans h.output, Nat.le_trans h.size hb.size, fun k hk hne => (hb.block k (Nat.lt_of_lt_of_le hk h.size)).trans (h.block k hk hne)⟩
theorem grown_alloc {w w1 : World} {g : Nat} (h : w.grownBy w1 (some g)) (o : Obj) : w.grownBy (w1.alloc o) (some g) := h.trans (World.grownBy_alloc w1 o _)
theorem cur_own {T : TypeId} {B g : Nat} {w1 w2 : World} {base n size : Nat} {e : TypeId} {v : Value} {xs : List Value} (hc : Cur T B w1 g) (hown : w1.ownsRow base e size v n xs) (hg : w1.grownBy w2 v.ownBlock) (hb : g < base) : Cur T B w2 g :=
  hc.grown hg fun k e => by have := (hown.lt k e).1; omega
theorem own_cur {w1 w2 : World} {g base n size : Nat} {e : TypeId} {v : Value} {xs : List Value} (hown : w1.ownsRow base e size v n xs) (hg : w1.grownBy w2 (some g)) (hb : g < base) : w2.ownsRow base e size v n xs :=
  hown.kept hg (by
    rcases hv : v.ownBlock with _ | k
    · exact .inl rfl
    · refine .inr fun e => ?_
      injection e with e
      have := (hown.lt k hv).1
      omega)
end Go.Proofs.Ytklmhkckhdmelaa
