/- The draws: a cursor, a byte from 0 to 255, a number below n. -/
import Derived.Test.YtjclhlicginekaaDoorProg
import Derived.Test.YtjclhlicginekaaDoorKit
import Derived.IntWalk
namespace Go.Proofs.YtjclhlicginekaaDoor
open Go Go.RowKit

theorem newCur_mk (T : TypeId) (A : Option Addr) (n c : Nat) (x : Int) (w : World) (hb : Bytes w.heap.size w A n) (hn : n ≤ 2000000) :
    NewCur T w (.returned (.pointer (some ⟨w.heap.size, 0, none⟩))) (w.alloc (.cells #[.slice A n c, .int .i64 0, .int .i64 x] T)) :=
  ⟨w.heap.size, rfl, ⟨Nat.le_refl _, A, n, c, 0, x, heap_alloc_new w _, Nat.zero_le _, hn, hb.keep fun k hk => Below.heap_alloc w _ k hk⟩, (Below.refl _ _).alloc (Nat.le_refl _) _⟩

def isBelow (n x : Int) : Prop := (n ≤ 0 → x = 0) ∧ (0 < n → 0 ≤ x ∧ x < n)

theorem drawn_zero {T : TypeId} {B g : Nat} {w : World} {n : Int} (hc : Cur T B w g) (hn : n ≤ 0) : Drawn T B g (isBelow n) w (.returned (.int .i64 0)) w :=
  ⟨0, rfl, ⟨fun _ => rfl, fun h => by omega⟩, hc, World.grownBy.refl w _⟩

theorem l01In_is (x lo hi : Int) (b : Bool) (h : decide (lo ≤ x ∧ x ≤ hi) = b) (w : World) :
    Calls Tryd.prog 33 #[.int .i64 x, .int .i64 lo, .int .i64 hi] w fun e w' => e = .returned (.bool b) ∧ w = w' := by
  subst h
  go_enter Tryd.func33, Tryd.ntmps33
  go_wp2
  all_goals go_ret
  all_goals exact ⟨ret_bool (by simp; omega), rfl⟩
def figB (x : Nat) : UInt8 := UInt8.ofNat (if x < 10 then 48 + x else 87 + x)
theorem l01Figure_any (x : Int) (h0 : 0 ≤ x) (h1 : x < 16) (w : World) :
    Calls Tryd.prog 34 #[.int .i64 x] w fun e w' => e = .returned (.int .u8 ((figB x.toNat).toNat : Int)) ∧ w = w' := by
  obtain ⟨n, rfl⟩ := Int.eq_ofNat_of_zero_le h0
  by_cases h : n < 10
  · go_enter Tryd.func34, Tryd.ntmps34
    go_wp2
    go_ret
    exact ⟨ret_int (by simp [figB, h]; omega), rfl⟩
  · go_enter Tryd.func34, Tryd.ntmps34
    go_wp2
    go_ret
    exact ⟨ret_int (by simp [figB, h]; omega), rfl⟩

theorem grown_own {w w1 w2 : World} {g base n size : Nat} {e : TypeId} {v : Value} {xs : List Value} (h : w.grownBy w1 (some g)) (hown : w1.ownsRow base e size v n xs) (hg : w1.grownBy w2 v.ownBlock) (hb : w.heap.size ≤ base) : w.grownBy w2 (some g) :=
  ⟨hg.os.trans h.os, hg.tape.trans h.tape, hg.output.trans h.output, Nat.le_trans h.size hg.size, fun k hk hne => (hg.block k (Nat.lt_of_lt_of_le hk h.size) (fun e => by have := (hown.lt k e.symm).1; omega)).trans (h.block k hk hne)⟩
theorem grown_below {w w1 w2 : World} {g : Nat} (h : w.grownBy w1 (some g)) (hb : Below w1.heap.size w1 w2) : w.grownBy w2 (some g) :=
  ⟨hb.os.trans h.os, hb.tape.trans h.tape, hb.output.trans h.output, Nat.le_trans h.size hb.size, fun k hk hne => (hb.block k (Nat.lt_of_lt_of_le hk h.size)).trans (h.block k hk hne)⟩
theorem grown_alloc {w w1 : World} {g : Nat} (h : w.grownBy w1 (some g)) (o : Obj) : w.grownBy (w1.alloc o) (some g) := h.trans (World.grownBy_alloc w1 o _)
theorem cur_own {T : TypeId} {B g : Nat} {w1 w2 : World} {base n size : Nat} {e : TypeId} {v : Value} {xs : List Value} (hc : Cur T B w1 g) (hown : w1.ownsRow base e size v n xs) (hg : w1.grownBy w2 v.ownBlock) (hb : g < base) : Cur T B w2 g :=
  hc.grown hg fun k e => by have := (hown.lt k e).1; omega
theorem own_cur {w1 w2 : World} {g base n size : Nat} {e : TypeId} {v : Value} {xs : List Value} (hown : w1.ownsRow base e size v n xs) (hg : w1.grownBy w2 (some g)) (hb : g < base) : w2.ownsRow base e size v n xs :=
  hown.kept hg (by
    rcases hv : v.ownBlock with _ | k
    · exact .inl rfl
    · refine .inr fun e => ?_
      injection e with e
      have := (hown.lt k hv).1
      omega)
end Go.Proofs.YtjclhlicginekaaDoor
