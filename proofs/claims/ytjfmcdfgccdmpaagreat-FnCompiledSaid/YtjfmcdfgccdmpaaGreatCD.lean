/- Compilation: an operation's gates: the program's. No condition. And what goes with it. -/
import Derived.Test.YtjfmcdfgccdmpaaGreatProg
import Derived.Test.YtjfmcdfgccdmpaaGreatCmC
import Derived.Test.YtjfmcdfgccdmpaaGreatCwW
import Derived.Deep.CutBlock
namespace Go.Proofs.YtjfmcdfgccdmpaaGreat
open Go Go.RowKit
/-- Gates of a statement were appended: its word in new memory. -/
def PutR (B g : Nat) (v1 : Rest) (n : Nat) (z' us : List Int) (v : Value) (w : World) (e : Ending) (w' : World) : Prop :=
  ∃ (v' : Value) (n' : Nat) (A : Option Addr) (c : Nat), e = .returned (.slice A 4 c) ∧ us.length = 4 ∧ n' ≤ n + 34 ∧ Cir B g w' v' v1 n' z' ∧ Turn g v w v' w' ∧ Wl g v' w.heap.size w' (.slice A 4 c) 4 us
theorem PutL.r {B g n n' : Nat} {v1 : Rest} {z' us : List Int} {v : Value} {w : World} {f : FuncId} {args : Array Value} (h : Calls Tryz.prog f args w (PutL B g v1 n' z' us v w)) (l : us.length = 4) (hn : n' ≤ n + 34) : Calls Tryz.prog f args w (PutR B g v1 n z' us v w) :=
  h.mono fun _ _ ⟨v', A, k, c, e, lk, hc, t, hw⟩ => by
    obtain rfl : k = 4 := by omega
    exact ⟨v', n', A, c, e, l, hn, hc, t, hw⟩
end Go.Proofs.YtjfmcdfgccdmpaaGreat

namespace Go.Proofs.YtjfmcdfgccdmpaaGreat
open Go Go.RowKit
set_option maxRecDepth 100000 in
set_option maxHeartbeats 2000000 in
theorem impl_operate_3 (B g : Nat) (v u : Value) (vs : List Value) (n m : Nat) (z os : List Int) (rg : List (List Int)) (d : Int) (a b : Nat) (ha : a < 8) (hb : b < 8) (w : World) (h : Cp B g w v u vs n m z os rg) (hB : B ≤ w.heap.size) (hn : n ≤ 900000) :
    Calls Tryz.prog 36 #[.pointer (some ⟨g, 0, none⟩), .agg #[.int .i64 3, .int .i64 d, .int .i64 a, .int .i64 b]] w (PutR B g ⟨u :: (vs ++ [.int .i64 0]), 57⟩ n (sumA z (rg.getD a []) (rg.getD b []) 0 3).1 (sumA z (rg.getD a []) (rg.getD b []) 0 3).2 v w) := by
  have al := below_alloc w (.cells #[.int .i64 3, .int .i64 d, .int .i64 a, .int .i64 b] 87)
  have b0 := heap_alloc_new w (.cells #[.int .i64 3, .int .i64 d, .int .i64 a, .int .i64 b] 87)
  have k0 := h.below al
  have gl := h.cir.lt
  have hv8 := h.tab.vlen
  obtain ⟨A, c, ea, dc, la, ra⟩ := h.tab.row a ha
  obtain ⟨A', c', eb, dc', lb, rb⟩ := h.tab.row b hb
  have ca := (k0.cell ha ea).1
  have cb := (k0.cell hb eb).1
  have na : w.heap.size ≠ g := by omega
  have nv : v.ownBlock ≠ some w.heap.size := fun e => by have := (h.cir.own.lt _ e).2; omega
  have oa := ra.off.below al
  have ob := rb.off.below al
  have B0 : B ≤ (w.alloc (.cells #[.int .i64 3, .int .i64 d, .int .i64 a, .int .i64 b] 87)).heap.size := by simp; omega
  obtain ⟨x0, -⟩ := blk (i := 0) b0 rfl
  obtain ⟨x2, -⟩ := blk (i := 2) b0 rfl
  obtain ⟨x3, -⟩ := blk (i := 3) b0 rfl
  have a0 : (0 : Int) ≤ a := by omega
  have a1 : (a : Int) < 8 := by omega
  have p0 : (0 : Int) ≤ b := by omega
  have p1 : (b : Int) < 8 := by omega
  have wa := wb_at3
  go_enter Tryz.func36, Tryz.ntmps36
  go_wp2_with fail
  generalize w.alloc (.cells #[.int .i64 3, .int .i64 d, .int .i64 a, .int .i64 b] 87) = w0 at *
  generalize rg.getD a [] = ra0 at *
  generalize rg.getD b [] = rb0 at *
  go_cut [5] (fun s wx => ∃ (v' : Value) (A5 : Option Addr) (c5 : Nat), s = .slice A5 4 c5 ∧ Cir B g wx v' ⟨u :: (vs ++ [.int .i64 0]), 57⟩ (n + 1 + 5 * 3 + 1 + 1) (sumA z ra0 rb0 0 3).1 ∧ Turn g v w0 v' wx ∧ Wl g v' w0.heap.size wx (.slice A5 4 c5) 4 (sumA z ra0 rb0 0 3).2)
  case first =>
    have d0 : w0.drew.cell? ⟨w.heap.size, 0, none⟩ = some (.int .i64 3) := x0
    have d2 : w0.drew.cell? ⟨w.heap.size, 2, none⟩ = some (.int .i64 a) := x2
    have d3 : w0.drew.cell? ⟨w.heap.size, 3, none⟩ = some (.int .i64 b) := x3
    have kd := k0.drew
    have oad := oa.drew
    have obd := ob.drew
    have Bd : B ≤ w0.drew.heap.size := B0
    go_region_held3 (fun w' => w'.cell? ⟨w.heap.size, 0, none⟩ = some (.int .i64 3) ∧ w'.cell? ⟨w.heap.size, 2, none⟩ = some (.int .i64 a) ∧ w'.cell? ⟨w.heap.size, 3, none⟩ = some (.int .i64 b) ∧ w'.cell? ⟨g, 2 + a, none⟩ = some (.slice A 4 c) ∧ w'.cell? ⟨g, 2 + b, none⟩ = some (.slice A' 4 c')) (first | exact ⟨x0, x2, x3, ca, cb⟩ | exact ⟨y0, y2, y3, ya, yb⟩ | exact ⟨z0, z2, z3, za, zb⟩) (first
      | (go_at_call 58; (with_reducible refine (impl_wordBuilders _).mono ?_); rintro e w2 ⟨rfl, hb2⟩; (have y0 := cell_on d0 hb2); (have y2 := cell_on d2 hb2); (have y3 := cell_on d3 hb2); (have k2 := kd.below hb2); (have ya := (k2.cell ha ea).1); (have yb := (k2.cell hb eb).1); (have oa2 := oad.below hb2); (have ob2 := obd.below hb2); (have B2 := Nat.le_trans Bd hb2.size))
      | (go_at_call 75; (with_reducible refine (impl_sum B g n v _ z A c _ A' c' _ w2 k2.cir B2 oa2 la dc ob2 lb dc' (by omega)).mono ?_); rintro e w3 ⟨v3, A3, j3, c3, rfl, l3, h3, t3, wl3⟩; (have z0 := t3.cell y0 na nv); (have z2 := t3.cell y2 na nv); (have z3 := t3.cell y3 na nv); (have k3 := k2.next h3 t3); (have za := (k3.cell ha ea).1); (have zb := (k3.cell hb eb).1)))
    all_goals
      have T := Lib.hid (((Turn.refl g v w0).drew.below hb2).trans t3)
      have C := Lib.hid (And.intro h3 (wl3.mono (B' := w0.heap.size) hb2.size))
      have l4 : j3 = 4 := by rw [← l3, sumA_len4]
      subst l4
      clear h3 t3 wl3 k3 za zb z0 z2 z3 k2 ya yb y0 y2 y3 oa2 ob2 hb2
      go_wp2_with fail
      go_meet
      exact ⟨v3, A3, c3, rfl, C.out.1, T.out, C.out.2⟩
  case rest =>
    obtain ⟨v5, A5, c5, rfl, h5, t5, w5⟩ := hcut
    have S0 := Lib.hid (And.intro h5 (And.intro ((Turn.refl g v w).below al |>.trans t5) (w5.mono (B' := w.heap.size) al.size)))
    clear h5 t5 w5 k0 h ca cb x0 x2 x3 oa ob ra rb
    go_wp2_with fail
    go_loopw [5] (fun s wr => s = .slice A5 4 c5 ∧ wr = wc) (fun _ _ => 0)
    case atStart => exact ⟨rfl, rfl⟩
    case round =>
      obtain ⟨rfl, rfl⟩ := hrel
      go_wp2_with fail
      go_ret
      exact ⟨v5, n + 1 + 5 * 3 + 1 + 1, A5, c5, rfl, rfl, by omega, S0.out.1, S0.out.2.1, S0.out.2.2⟩
set_option maxRecDepth 100000 in
set_option maxHeartbeats 2000000 in
theorem impl_operate_4 (B g : Nat) (v u : Value) (vs : List Value) (n m : Nat) (z os : List Int) (rg : List (List Int)) (d : Int) (a b : Nat) (ha : a < 8) (hb : b < 8) (w : World) (h : Cp B g w v u vs n m z os rg) (hB : B ≤ w.heap.size) (hn : n ≤ 900000) :
    Calls Tryz.prog 36 #[.pointer (some ⟨g, 0, none⟩), .agg #[.int .i64 4, .int .i64 d, .int .i64 a, .int .i64 b]] w (PutR B g ⟨u :: (vs ++ [.int .i64 0]), 57⟩ n (sumA (notsAt z (rg.getD b []) 4).1 (rg.getD a []) (notsAt z (rg.getD b []) 4).2 1 3).1 (sumA (notsAt z (rg.getD b []) 4).1 (rg.getD a []) (notsAt z (rg.getD b []) 4).2 1 3).2 v w) := by
  have al := below_alloc w (.cells #[.int .i64 4, .int .i64 d, .int .i64 a, .int .i64 b] 87)
  have b0 := heap_alloc_new w (.cells #[.int .i64 4, .int .i64 d, .int .i64 a, .int .i64 b] 87)
  have k0 := h.below al
  have gl := h.cir.lt
  have hv8 := h.tab.vlen
  obtain ⟨A, c, ea, dc, la, ra⟩ := h.tab.row a ha
  obtain ⟨A', c', eb, dc', lb, rb⟩ := h.tab.row b hb
  have ca := (k0.cell ha ea).1
  have cb := (k0.cell hb eb).1
  have na : w.heap.size ≠ g := by omega
  have nv : v.ownBlock ≠ some w.heap.size := fun e => by have := (h.cir.own.lt _ e).2; omega
  have oa := ra.off.below al
  have ob := rb.off.below al
  have B0 : B ≤ (w.alloc (.cells #[.int .i64 4, .int .i64 d, .int .i64 a, .int .i64 b] 87)).heap.size := by simp; omega
  obtain ⟨x0, -⟩ := blk (i := 0) b0 rfl
  obtain ⟨x2, -⟩ := blk (i := 2) b0 rfl
  obtain ⟨x3, -⟩ := blk (i := 3) b0 rfl
  have a0 : (0 : Int) ≤ a := by omega
  have a1 : (a : Int) < 8 := by omega
  have p0 : (0 : Int) ≤ b := by omega
  have p1 : (b : Int) < 8 := by omega
  have wa := wb_at4
  go_enter Tryz.func36, Tryz.ntmps36
  go_wp2_with fail
  generalize w.alloc (.cells #[.int .i64 4, .int .i64 d, .int .i64 a, .int .i64 b] 87) = w0 at *
  generalize rg.getD a [] = ra0 at *
  generalize rg.getD b [] = rb0 at *
  go_cut [5] (fun s wx => ∃ (v' : Value) (A5 : Option Addr) (c5 : Nat), s = .slice A5 4 c5 ∧ Cir B g wx v' ⟨u :: (vs ++ [.int .i64 0]), 57⟩ (n + 4 + 1 + 5 * 3 + 1 + 1) (sumA (notsAt z rb0 4).1 ra0 (notsAt z rb0 4).2 1 3).1 ∧ Turn g v w0 v' wx ∧ Wl g v' w0.heap.size wx (.slice A5 4 c5) 4 (sumA (notsAt z rb0 4).1 ra0 (notsAt z rb0 4).2 1 3).2)
  case first =>
    have d0 : w0.drew.cell? ⟨w.heap.size, 0, none⟩ = some (.int .i64 4) := x0
    have d2 : w0.drew.cell? ⟨w.heap.size, 2, none⟩ = some (.int .i64 a) := x2
    have d3 : w0.drew.cell? ⟨w.heap.size, 3, none⟩ = some (.int .i64 b) := x3
    have kd := k0.drew
    have oad := oa.drew
    have obd := ob.drew
    have Bd : B ≤ w0.drew.heap.size := B0
    go_region_held3 (fun w' => w'.cell? ⟨w.heap.size, 0, none⟩ = some (.int .i64 4) ∧ w'.cell? ⟨w.heap.size, 2, none⟩ = some (.int .i64 a) ∧ w'.cell? ⟨w.heap.size, 3, none⟩ = some (.int .i64 b) ∧ w'.cell? ⟨g, 2 + a, none⟩ = some (.slice A 4 c) ∧ w'.cell? ⟨g, 2 + b, none⟩ = some (.slice A' 4 c')) (first | exact ⟨x0, x2, x3, ca, cb⟩ | exact ⟨y0, y2, y3, ya, yb⟩ | exact ⟨z0, z2, z3, za, zb⟩) (first
      | (go_at_call 58; (with_reducible refine (impl_wordBuilders _).mono ?_); rintro e w2 ⟨rfl, hb2⟩; (have y0 := cell_on d0 hb2); (have y2 := cell_on d2 hb2); (have y3 := cell_on d3 hb2); (have k2 := kd.below hb2); (have ya := (k2.cell ha ea).1); (have yb := (k2.cell hb eb).1); (have oa2 := oad.below hb2); (have ob2 := obd.below hb2); (have B2 := Nat.le_trans Bd hb2.size))
      | (go_at_call 76; (with_reducible refine (impl_difference B g n v _ z A c _ A' c' _ w2 k2.cir B2 oa2 la dc ob2 lb (by omega)).mono ?_); rintro e w3 ⟨v3, A3, j3, c3, rfl, l3, h3, t3, wl3⟩; (have z0 := t3.cell y0 na nv); (have z2 := t3.cell y2 na nv); (have z3 := t3.cell y3 na nv); (have k3 := k2.next h3 t3); (have za := (k3.cell ha ea).1); (have zb := (k3.cell hb eb).1)))
    all_goals
      have T := Lib.hid (((Turn.refl g v w0).drew.below hb2).trans t3)
      have C := Lib.hid (And.intro h3 (wl3.mono (B' := w0.heap.size) hb2.size))
      have l4 : j3 = 4 := by rw [← l3, sumA_len4]
      subst l4
      clear h3 t3 wl3 k3 za zb z0 z2 z3 k2 ya yb y0 y2 y3 oa2 ob2 hb2
      go_wp2_with fail
      go_meet
      exact ⟨v3, A3, c3, rfl, C.out.1, T.out, C.out.2⟩
  case rest =>
    obtain ⟨v5, A5, c5, rfl, h5, t5, w5⟩ := hcut
    have S0 := Lib.hid (And.intro h5 (And.intro ((Turn.refl g v w).below al |>.trans t5) (w5.mono (B' := w.heap.size) al.size)))
    clear h5 t5 w5 k0 h ca cb x0 x2 x3 oa ob ra rb
    go_wp2_with fail
    go_loopw [5] (fun s wr => s = .slice A5 4 c5 ∧ wr = wc) (fun _ _ => 0)
    case atStart => exact ⟨rfl, rfl⟩
    case round =>
      obtain ⟨rfl, rfl⟩ := hrel
      go_wp2_with fail
      go_ret
      exact ⟨v5, n + 4 + 1 + 5 * 3 + 1 + 1, A5, c5, rfl, rfl, by omega, S0.out.1, S0.out.2.1, S0.out.2.2⟩
set_option maxRecDepth 100000 in
set_option maxHeartbeats 2000000 in
theorem impl_operate_5 (B g : Nat) (v u : Value) (vs : List Value) (n m : Nat) (z os : List Int) (rg : List (List Int)) (d : Int) (a b : Nat) (ha : a < 8) (hb : b < 8) (w : World) (h : Cp B g w v u vs n m z os rg) (hB : B ≤ w.heap.size) (hn : n ≤ 900000) :
    Calls Tryz.prog 36 #[.pointer (some ⟨g, 0, none⟩), .agg #[.int .i64 5, .int .i64 d, .int .i64 a, .int .i64 b]] w (PutR B g ⟨u :: (vs ++ [.int .i64 0]), 57⟩ n (mulAt z (rg.getD a []) (rg.getD b []) 3).1 (mulAt z (rg.getD a []) (rg.getD b []) 3).2 v w) := by
  have al := below_alloc w (.cells #[.int .i64 5, .int .i64 d, .int .i64 a, .int .i64 b] 87)
  have b0 := heap_alloc_new w (.cells #[.int .i64 5, .int .i64 d, .int .i64 a, .int .i64 b] 87)
  have k0 := h.below al
  have gl := h.cir.lt
  have hv8 := h.tab.vlen
  obtain ⟨A, c, ea, dc, la, ra⟩ := h.tab.row a ha
  obtain ⟨A', c', eb, dc', lb, rb⟩ := h.tab.row b hb
  have ca := (k0.cell ha ea).1
  have cb := (k0.cell hb eb).1
  have na : w.heap.size ≠ g := by omega
  have nv : v.ownBlock ≠ some w.heap.size := fun e => by have := (h.cir.own.lt _ e).2; omega
  have oa := ra.off.below al
  have ob := rb.off.below al
  have B0 : B ≤ (w.alloc (.cells #[.int .i64 5, .int .i64 d, .int .i64 a, .int .i64 b] 87)).heap.size := by simp; omega
  obtain ⟨x0, -⟩ := blk (i := 0) b0 rfl
  obtain ⟨x2, -⟩ := blk (i := 2) b0 rfl
  obtain ⟨x3, -⟩ := blk (i := 3) b0 rfl
  have a0 : (0 : Int) ≤ a := by omega
  have a1 : (a : Int) < 8 := by omega
  have p0 : (0 : Int) ≤ b := by omega
  have p1 : (b : Int) < 8 := by omega
  have wa := wb_at5
  go_enter Tryz.func36, Tryz.ntmps36
  go_wp2_with fail
  generalize w.alloc (.cells #[.int .i64 5, .int .i64 d, .int .i64 a, .int .i64 b] 87) = w0 at *
  generalize rg.getD a [] = ra0 at *
  generalize rg.getD b [] = rb0 at *
  go_cut [5] (fun s wx => ∃ (v' : Value) (A5 : Option Addr) (c5 : Nat), s = .slice A5 4 c5 ∧ Cir B g wx v' ⟨u :: (vs ++ [.int .i64 0]), 57⟩ (n + mulN 3) (mulAt z ra0 rb0 3).1 ∧ Turn g v w0 v' wx ∧ Wl g v' w0.heap.size wx (.slice A5 4 c5) 4 (mulAt z ra0 rb0 3).2)
  case first =>
    have d0 : w0.drew.cell? ⟨w.heap.size, 0, none⟩ = some (.int .i64 5) := x0
    have d2 : w0.drew.cell? ⟨w.heap.size, 2, none⟩ = some (.int .i64 a) := x2
    have d3 : w0.drew.cell? ⟨w.heap.size, 3, none⟩ = some (.int .i64 b) := x3
    have kd := k0.drew
    have oad := oa.drew
    have obd := ob.drew
    have Bd : B ≤ w0.drew.heap.size := B0
    go_region_held3 (fun w' => w'.cell? ⟨w.heap.size, 0, none⟩ = some (.int .i64 5) ∧ w'.cell? ⟨w.heap.size, 2, none⟩ = some (.int .i64 a) ∧ w'.cell? ⟨w.heap.size, 3, none⟩ = some (.int .i64 b) ∧ w'.cell? ⟨g, 2 + a, none⟩ = some (.slice A 4 c) ∧ w'.cell? ⟨g, 2 + b, none⟩ = some (.slice A' 4 c')) (first | exact ⟨x0, x2, x3, ca, cb⟩ | exact ⟨y0, y2, y3, ya, yb⟩ | exact ⟨z0, z2, z3, za, zb⟩) (first
      | (go_at_call 58; (with_reducible refine (impl_wordBuilders _).mono ?_); rintro e w2 ⟨rfl, hb2⟩; (have y0 := cell_on d0 hb2); (have y2 := cell_on d2 hb2); (have y3 := cell_on d3 hb2); (have k2 := kd.below hb2); (have ya := (k2.cell ha ea).1); (have yb := (k2.cell hb eb).1); (have oa2 := oad.below hb2); (have ob2 := obd.below hb2); (have B2 := Nat.le_trans Bd hb2.size))
      | (go_at_call 77; (with_reducible refine (impl_product B g n v _ z A c _ A' c' _ w2 k2.cir B2 oa2 la dc ob2 lb (by omega)).mono ?_); rintro e w3 ⟨v3, A3, j3, c3, rfl, l3, h3, t3, wl3⟩; (have z0 := t3.cell y0 na nv); (have z2 := t3.cell y2 na nv); (have z3 := t3.cell y3 na nv); (have k3 := k2.next h3 t3); (have za := (k3.cell ha ea).1); (have zb := (k3.cell hb eb).1)))
    all_goals
      have T := Lib.hid (((Turn.refl g v w0).drew.below hb2).trans t3)
      have C := Lib.hid (And.intro h3 (wl3.mono (B' := w0.heap.size) hb2.size))
      have l4 : j3 = 4 := by rw [← l3, mulAt_length _ _ _ 3 (by omega)]
      subst l4
      clear h3 t3 wl3 k3 za zb z0 z2 z3 k2 ya yb y0 y2 y3 oa2 ob2 hb2
      go_wp2_with fail
      go_meet
      exact ⟨v3, A3, c3, rfl, C.out.1, T.out, C.out.2⟩
  case rest =>
    obtain ⟨v5, A5, c5, rfl, h5, t5, w5⟩ := hcut
    have S0 := Lib.hid (And.intro h5 (And.intro ((Turn.refl g v w).below al |>.trans t5) (w5.mono (B' := w.heap.size) al.size)))
    clear h5 t5 w5 k0 h ca cb x0 x2 x3 oa ob ra rb
    go_wp2_with fail
    go_loopw [5] (fun s wr => s = .slice A5 4 c5 ∧ wr = wc) (fun _ _ => 0)
    case atStart => exact ⟨rfl, rfl⟩
    case round =>
      obtain ⟨rfl, rfl⟩ := hrel
      go_wp2_with fail
      go_ret
      exact ⟨v5, n + mulN 3, A5, c5, rfl, mulAt_length _ _ _ 3 (by omega), by simp only [mulN]; omega, S0.out.1, S0.out.2.1, S0.out.2.2⟩
end Go.Proofs.YtjfmcdfgccdmpaaGreat

namespace Go.Proofs.YtjfmcdfgccdmpaaGreat
open Go Go.RowKit
set_option maxRecDepth 100000 in
set_option maxHeartbeats 2000000 in
theorem impl_operate_6 (B g : Nat) (v u : Value) (vs : List Value) (n m : Nat) (z os : List Int) (rg : List (List Int)) (d : Int) (a b : Nat) (ha : a < 8) (hb : b < 8) (w : World) (h : Cp B g w v u vs n m z os rg) (hB : B ≤ w.heap.size) (hn : n ≤ 900000) :
    Calls Tryz.prog 36 #[.pointer (some ⟨g, 0, none⟩), .agg #[.int .i64 6, .int .i64 d, .int .i64 a, .int .i64 b]] w (PutR B g ⟨u :: (vs ++ [.int .i64 0]), 57⟩ n (bitsAt z 4 (rg.getD a []) (rg.getD b []) 4).1 (bitsAt z 4 (rg.getD a []) (rg.getD b []) 4).2 v w) := by
  have al := below_alloc w (.cells #[.int .i64 6, .int .i64 d, .int .i64 a, .int .i64 b] 87)
  have b0 := heap_alloc_new w (.cells #[.int .i64 6, .int .i64 d, .int .i64 a, .int .i64 b] 87)
  have k0 := h.below al
  have gl := h.cir.lt
  have hv8 := h.tab.vlen
  obtain ⟨A, c, ea, dc, la, ra⟩ := h.tab.row a ha
  obtain ⟨A', c', eb, dc', lb, rb⟩ := h.tab.row b hb
  have ca := (k0.cell ha ea).1
  have cb := (k0.cell hb eb).1
  have na : w.heap.size ≠ g := by omega
  have nv : v.ownBlock ≠ some w.heap.size := fun e => by have := (h.cir.own.lt _ e).2; omega
  have oa := ra.off.below al
  have ob := rb.off.below al
  have B0 : B ≤ (w.alloc (.cells #[.int .i64 6, .int .i64 d, .int .i64 a, .int .i64 b] 87)).heap.size := by simp; omega
  obtain ⟨x0, -⟩ := blk (i := 0) b0 rfl
  obtain ⟨x2, -⟩ := blk (i := 2) b0 rfl
  obtain ⟨x3, -⟩ := blk (i := 3) b0 rfl
  have a0 : (0 : Int) ≤ a := by omega
  have a1 : (a : Int) < 8 := by omega
  have p0 : (0 : Int) ≤ b := by omega
  have p1 : (b : Int) < 8 := by omega
  have wa := wb_at6
  go_enter Tryz.func36, Tryz.ntmps36
  go_wp2_with fail
  generalize w.alloc (.cells #[.int .i64 6, .int .i64 d, .int .i64 a, .int .i64 b] 87) = w0 at *
  generalize rg.getD a [] = ra0 at *
  generalize rg.getD b [] = rb0 at *
  go_cut [5] (fun s wx => ∃ (v' : Value) (A5 : Option Addr) (c5 : Nat), s = .slice A5 4 c5 ∧ Cir B g wx v' ⟨u :: (vs ++ [.int .i64 0]), 57⟩ (n + 4) (bitsAt z 4 ra0 rb0 4).1 ∧ Turn g v w0 v' wx ∧ Wl g v' w0.heap.size wx (.slice A5 4 c5) 4 (bitsAt z 4 ra0 rb0 4).2)
  case first =>
    have d0 : w0.drew.cell? ⟨w.heap.size, 0, none⟩ = some (.int .i64 6) := x0
    have d2 : w0.drew.cell? ⟨w.heap.size, 2, none⟩ = some (.int .i64 a) := x2
    have d3 : w0.drew.cell? ⟨w.heap.size, 3, none⟩ = some (.int .i64 b) := x3
    have kd := k0.drew
    have oad := oa.drew
    have obd := ob.drew
    have Bd : B ≤ w0.drew.heap.size := B0
    go_region_held3 (fun w' => w'.cell? ⟨w.heap.size, 0, none⟩ = some (.int .i64 6) ∧ w'.cell? ⟨w.heap.size, 2, none⟩ = some (.int .i64 a) ∧ w'.cell? ⟨w.heap.size, 3, none⟩ = some (.int .i64 b) ∧ w'.cell? ⟨g, 2 + a, none⟩ = some (.slice A 4 c) ∧ w'.cell? ⟨g, 2 + b, none⟩ = some (.slice A' 4 c')) (first | exact ⟨x0, x2, x3, ca, cb⟩ | exact ⟨y0, y2, y3, ya, yb⟩ | exact ⟨z0, z2, z3, za, zb⟩) (first
      | (go_at_call 58; (with_reducible refine (impl_wordBuilders _).mono ?_); rintro e w2 ⟨rfl, hb2⟩; (have y0 := cell_on d0 hb2); (have y2 := cell_on d2 hb2); (have y3 := cell_on d3 hb2); (have k2 := kd.below hb2); (have ya := (k2.cell ha ea).1); (have yb := (k2.cell hb eb).1); (have oa2 := oad.below hb2); (have ob2 := obd.below hb2); (have B2 := Nat.le_trans Bd hb2.size))
      | (go_at_call 78; (with_reducible refine (impl_andBits B g n v _ z A c _ A' c' _ w2 k2.cir B2 oa2 la ob2 lb (by omega)).mono ?_); rintro e w3 ⟨v3, A3, j3, c3, rfl, l3, h3, t3, wl3⟩; (have z0 := t3.cell y0 na nv); (have z2 := t3.cell y2 na nv); (have z3 := t3.cell y3 na nv); (have k3 := k2.next h3 t3); (have za := (k3.cell ha ea).1); (have zb := (k3.cell hb eb).1)))
    all_goals
      have T := Lib.hid (((Turn.refl g v w0).drew.below hb2).trans t3)
      have C := Lib.hid (And.intro h3 (wl3.mono (B' := w0.heap.size) hb2.size))
      have l4 : j3 = 4 := by rw [← l3, bitsAt_len4]
      subst l4
      clear h3 t3 wl3 k3 za zb z0 z2 z3 k2 ya yb y0 y2 y3 oa2 ob2 hb2
      go_wp2_with fail
      go_meet
      exact ⟨v3, A3, c3, rfl, C.out.1, T.out, C.out.2⟩
  case rest =>
    obtain ⟨v5, A5, c5, rfl, h5, t5, w5⟩ := hcut
    have S0 := Lib.hid (And.intro h5 (And.intro ((Turn.refl g v w).below al |>.trans t5) (w5.mono (B' := w.heap.size) al.size)))
    clear h5 t5 w5 k0 h ca cb x0 x2 x3 oa ob ra rb
    go_wp2_with fail
    go_loopw [5] (fun s wr => s = .slice A5 4 c5 ∧ wr = wc) (fun _ _ => 0)
    case atStart => exact ⟨rfl, rfl⟩
    case round =>
      obtain ⟨rfl, rfl⟩ := hrel
      go_wp2_with fail
      go_ret
      exact ⟨v5, n + 4, A5, c5, rfl, rfl, by omega, S0.out.1, S0.out.2.1, S0.out.2.2⟩
set_option maxRecDepth 100000 in
set_option maxHeartbeats 2000000 in
theorem impl_operate_7 (B g : Nat) (v u : Value) (vs : List Value) (n m : Nat) (z os : List Int) (rg : List (List Int)) (d : Int) (a b : Nat) (ha : a < 8) (hb : b < 8) (w : World) (h : Cp B g w v u vs n m z os rg) (hB : B ≤ w.heap.size) (hn : n ≤ 900000) :
    Calls Tryz.prog 36 #[.pointer (some ⟨g, 0, none⟩), .agg #[.int .i64 7, .int .i64 d, .int .i64 a, .int .i64 b]] w (PutR B g ⟨u :: (vs ++ [.int .i64 0]), 57⟩ n (bitsAt z 3 (rg.getD a []) (rg.getD b []) 4).1 (bitsAt z 3 (rg.getD a []) (rg.getD b []) 4).2 v w) := by
  have al := below_alloc w (.cells #[.int .i64 7, .int .i64 d, .int .i64 a, .int .i64 b] 87)
  have b0 := heap_alloc_new w (.cells #[.int .i64 7, .int .i64 d, .int .i64 a, .int .i64 b] 87)
  have k0 := h.below al
  have gl := h.cir.lt
  have hv8 := h.tab.vlen
  obtain ⟨A, c, ea, dc, la, ra⟩ := h.tab.row a ha
  obtain ⟨A', c', eb, dc', lb, rb⟩ := h.tab.row b hb
  have ca := (k0.cell ha ea).1
  have cb := (k0.cell hb eb).1
  have na : w.heap.size ≠ g := by omega
  have nv : v.ownBlock ≠ some w.heap.size := fun e => by have := (h.cir.own.lt _ e).2; omega
  have oa := ra.off.below al
  have ob := rb.off.below al
  have B0 : B ≤ (w.alloc (.cells #[.int .i64 7, .int .i64 d, .int .i64 a, .int .i64 b] 87)).heap.size := by simp; omega
  obtain ⟨x0, -⟩ := blk (i := 0) b0 rfl
  obtain ⟨x2, -⟩ := blk (i := 2) b0 rfl
  obtain ⟨x3, -⟩ := blk (i := 3) b0 rfl
  have a0 : (0 : Int) ≤ a := by omega
  have a1 : (a : Int) < 8 := by omega
  have p0 : (0 : Int) ≤ b := by omega
  have p1 : (b : Int) < 8 := by omega
  have wa := wb_at7
  go_enter Tryz.func36, Tryz.ntmps36
  go_wp2_with fail
  generalize w.alloc (.cells #[.int .i64 7, .int .i64 d, .int .i64 a, .int .i64 b] 87) = w0 at *
  generalize rg.getD a [] = ra0 at *
  generalize rg.getD b [] = rb0 at *
  go_cut [5] (fun s wx => ∃ (v' : Value) (A5 : Option Addr) (c5 : Nat), s = .slice A5 4 c5 ∧ Cir B g wx v' ⟨u :: (vs ++ [.int .i64 0]), 57⟩ (n + 4) (bitsAt z 3 ra0 rb0 4).1 ∧ Turn g v w0 v' wx ∧ Wl g v' w0.heap.size wx (.slice A5 4 c5) 4 (bitsAt z 3 ra0 rb0 4).2)
  case first =>
    have d0 : w0.drew.cell? ⟨w.heap.size, 0, none⟩ = some (.int .i64 7) := x0
    have d2 : w0.drew.cell? ⟨w.heap.size, 2, none⟩ = some (.int .i64 a) := x2
    have d3 : w0.drew.cell? ⟨w.heap.size, 3, none⟩ = some (.int .i64 b) := x3
    have kd := k0.drew
    have oad := oa.drew
    have obd := ob.drew
    have Bd : B ≤ w0.drew.heap.size := B0
    go_region_held3 (fun w' => w'.cell? ⟨w.heap.size, 0, none⟩ = some (.int .i64 7) ∧ w'.cell? ⟨w.heap.size, 2, none⟩ = some (.int .i64 a) ∧ w'.cell? ⟨w.heap.size, 3, none⟩ = some (.int .i64 b) ∧ w'.cell? ⟨g, 2 + a, none⟩ = some (.slice A 4 c) ∧ w'.cell? ⟨g, 2 + b, none⟩ = some (.slice A' 4 c')) (first | exact ⟨x0, x2, x3, ca, cb⟩ | exact ⟨y0, y2, y3, ya, yb⟩ | exact ⟨z0, z2, z3, za, zb⟩) (first
      | (go_at_call 58; (with_reducible refine (impl_wordBuilders _).mono ?_); rintro e w2 ⟨rfl, hb2⟩; (have y0 := cell_on d0 hb2); (have y2 := cell_on d2 hb2); (have y3 := cell_on d3 hb2); (have k2 := kd.below hb2); (have ya := (k2.cell ha ea).1); (have yb := (k2.cell hb eb).1); (have oa2 := oad.below hb2); (have ob2 := obd.below hb2); (have B2 := Nat.le_trans Bd hb2.size))
      | (go_at_call 79; (with_reducible refine (impl_xorBits B g n v _ z A c _ A' c' _ w2 k2.cir B2 oa2 la ob2 lb (by omega)).mono ?_); rintro e w3 ⟨v3, A3, j3, c3, rfl, l3, h3, t3, wl3⟩; (have z0 := t3.cell y0 na nv); (have z2 := t3.cell y2 na nv); (have z3 := t3.cell y3 na nv); (have k3 := k2.next h3 t3); (have za := (k3.cell ha ea).1); (have zb := (k3.cell hb eb).1)))
    all_goals
      have T := Lib.hid (((Turn.refl g v w0).drew.below hb2).trans t3)
      have C := Lib.hid (And.intro h3 (wl3.mono (B' := w0.heap.size) hb2.size))
      have l4 : j3 = 4 := by rw [← l3, bitsAt_len4]
      subst l4
      clear h3 t3 wl3 k3 za zb z0 z2 z3 k2 ya yb y0 y2 y3 oa2 ob2 hb2
      go_wp2_with fail
      go_meet
      exact ⟨v3, A3, c3, rfl, C.out.1, T.out, C.out.2⟩
  case rest =>
    obtain ⟨v5, A5, c5, rfl, h5, t5, w5⟩ := hcut
    have S0 := Lib.hid (And.intro h5 (And.intro ((Turn.refl g v w).below al |>.trans t5) (w5.mono (B' := w.heap.size) al.size)))
    clear h5 t5 w5 k0 h ca cb x0 x2 x3 oa ob ra rb
    go_wp2_with fail
    go_loopw [5] (fun s wr => s = .slice A5 4 c5 ∧ wr = wc) (fun _ _ => 0)
    case atStart => exact ⟨rfl, rfl⟩
    case round =>
      obtain ⟨rfl, rfl⟩ := hrel
      go_wp2_with fail
      go_ret
      exact ⟨v5, n + 4, A5, c5, rfl, rfl, by omega, S0.out.1, S0.out.2.1, S0.out.2.2⟩
set_option maxRecDepth 100000 in
set_option maxHeartbeats 2000000 in
theorem impl_operate_8 (B g : Nat) (v u : Value) (vs : List Value) (n m : Nat) (z os : List Int) (rg : List (List Int)) (d : Int) (a b : Nat) (ha : a < 8) (hb : b < 8) (w : World) (h : Cp B g w v u vs n m z os rg) (hB : B ≤ w.heap.size) (hn : n ≤ 900000) :
    Calls Tryz.prog 36 #[.pointer (some ⟨g, 0, none⟩), .agg #[.int .i64 8, .int .i64 d, .int .i64 a, .int .i64 b]] w (PutR B g ⟨u :: (vs ++ [.int .i64 0]), 57⟩ n (lessA z (rg.getD a []) (rg.getD b [])).1 [(lessA z (rg.getD a []) (rg.getD b [])).2, 0, 0, 0] v w) := by
  have al := below_alloc w (.cells #[.int .i64 8, .int .i64 d, .int .i64 a, .int .i64 b] 87)
  have b0 := heap_alloc_new w (.cells #[.int .i64 8, .int .i64 d, .int .i64 a, .int .i64 b] 87)
  have k0 := h.below al
  have gl := h.cir.lt
  have hv8 := h.tab.vlen
  obtain ⟨A, c, ea, dc, la, ra⟩ := h.tab.row a ha
  obtain ⟨A', c', eb, dc', lb, rb⟩ := h.tab.row b hb
  have ca := (k0.cell ha ea).1
  have cb := (k0.cell hb eb).1
  have na : w.heap.size ≠ g := by omega
  have nv : v.ownBlock ≠ some w.heap.size := fun e => by have := (h.cir.own.lt _ e).2; omega
  have oa := ra.off.below al
  have ob := rb.off.below al
  have B0 : B ≤ (w.alloc (.cells #[.int .i64 8, .int .i64 d, .int .i64 a, .int .i64 b] 87)).heap.size := by simp; omega
  obtain ⟨x0, -⟩ := blk (i := 0) b0 rfl
  obtain ⟨x2, -⟩ := blk (i := 2) b0 rfl
  obtain ⟨x3, -⟩ := blk (i := 3) b0 rfl
  have a0 : (0 : Int) ≤ a := by omega
  have a1 : (a : Int) < 8 := by omega
  have p0 : (0 : Int) ≤ b := by omega
  have p1 : (b : Int) < 8 := by omega
  have wa := wb_at8
  go_enter Tryz.func36, Tryz.ntmps36
  go_wp2_with fail
  generalize w.alloc (.cells #[.int .i64 8, .int .i64 d, .int .i64 a, .int .i64 b] 87) = w0 at *
  generalize rg.getD a [] = ra0 at *
  generalize rg.getD b [] = rb0 at *
  go_cut [5] (fun s wx => ∃ (v' : Value) (A5 : Option Addr) (c5 : Nat), s = .slice A5 1 c5 ∧ Cir B g wx v' ⟨u :: (vs ++ [.int .i64 0]), 57⟩ (n + 4 + 1 + 5 * 4 + 1) (lessA z ra0 rb0).1 ∧ Turn g v w0 v' wx ∧ Wl g v' w0.heap.size wx (.slice A5 1 c5) 1 [(lessA z ra0 rb0).2])
  case first =>
    have d0 : w0.drew.cell? ⟨w.heap.size, 0, none⟩ = some (.int .i64 8) := x0
    have d2 : w0.drew.cell? ⟨w.heap.size, 2, none⟩ = some (.int .i64 a) := x2
    have d3 : w0.drew.cell? ⟨w.heap.size, 3, none⟩ = some (.int .i64 b) := x3
    have kd := k0.drew
    have oad := oa.drew
    have obd := ob.drew
    have Bd : B ≤ w0.drew.heap.size := B0
    go_region_held3 (fun w' => w'.cell? ⟨w.heap.size, 0, none⟩ = some (.int .i64 8) ∧ w'.cell? ⟨w.heap.size, 2, none⟩ = some (.int .i64 a) ∧ w'.cell? ⟨w.heap.size, 3, none⟩ = some (.int .i64 b) ∧ w'.cell? ⟨g, 2 + a, none⟩ = some (.slice A 4 c) ∧ w'.cell? ⟨g, 2 + b, none⟩ = some (.slice A' 4 c')) (first | exact ⟨x0, x2, x3, ca, cb⟩ | exact ⟨y0, y2, y3, ya, yb⟩ | exact ⟨z0, z2, z3, za, zb⟩) (first
      | (go_at_call 58; (with_reducible refine (impl_wordBuilders _).mono ?_); rintro e w2 ⟨rfl, hb2⟩; (have y0 := cell_on d0 hb2); (have y2 := cell_on d2 hb2); (have y3 := cell_on d3 hb2); (have k2 := kd.below hb2); (have ya := (k2.cell ha ea).1); (have yb := (k2.cell hb eb).1); (have oa2 := oad.below hb2); (have ob2 := obd.below hb2); (have B2 := Nat.le_trans Bd hb2.size))
      | (go_at_call 80; (with_reducible refine (impl_lessBit B g n v _ z A c _ A' c' _ w2 k2.cir B2 oa2 la ob2 lb (by omega)).mono ?_); rintro e w3 ⟨v3, A3, j3, c3, rfl, l3, h3, t3, wl3⟩; (have z0 := t3.cell y0 na nv); (have z2 := t3.cell y2 na nv); (have z3 := t3.cell y3 na nv); (have k3 := k2.next h3 t3); (have za := (k3.cell ha ea).1); (have zb := (k3.cell hb eb).1)))
    all_goals
      have T := Lib.hid (((Turn.refl g v w0).drew.below hb2).trans t3)
      have C := Lib.hid (And.intro h3 (wl3.mono (B' := w0.heap.size) hb2.size))
      have l4 : j3 = 1 := by rw [← l3, List.length_singleton]
      subst l4
      clear h3 t3 wl3 k3 za zb z0 z2 z3 k2 ya yb y0 y2 y3 oa2 ob2 hb2
      go_wp2_with fail
      go_meet
      exact ⟨v3, A3, c3, rfl, C.out.1, T.out, C.out.2⟩
  case rest =>
    obtain ⟨v5, A5, c5, rfl, h5, t5, w5⟩ := hcut
    have S0 := Lib.hid (show Bl B g v w wc v5 ⟨u :: (vs ++ [.int .i64 0]), 57⟩ (n + 4 + 1 + 5 * 4 + 1) (lessA z ra0 rb0).1 (.slice A5 1 c5) 1 [(lessA z ra0 rb0).2] from ⟨h5, (Turn.refl g v w).below al |>.trans t5, w5.mono (B' := w.heap.size) al.size⟩)
    clear h5 t5 w5 k0 h ca cb x0 x2 x3 oa ob ra rb
    generalize (lessA z ra0 rb0).1 = zz at *
    generalize hR0 : [(lessA z ra0 rb0).2] = rr at *
    have HR := Lib.hid hR0
    clear hR0
    go_wp2_with fail
    go_loopw [5] (fun s wr => ∃ k : Nat, k ≤ 3 ∧ Bl B g v w wr v5 ⟨u :: (vs ++ [.int .i64 0]), 57⟩ (n + 4 + 1 + 5 * 4 + 1) zz s (k + 1) (rr ++ List.replicate k 0)) (fun s _ => 4 - (match s with | .slice _ k _ => k | _ => 0))
    case atStart => exact ⟨0, by omega, by simpa using S0.out⟩
    case round =>
      obtain ⟨k, hk, hs⟩ := hrel
      clear S0
      obtain ⟨A6, c6, rfl⟩ := hs.wl.form
      by_cases hlt : k < 3
      · have k0 : (0 : Int) ≤ k := by omega
        have k1 : (k : Int) + 1 < 4 := by omega
        have q0 : wr.cell? ⟨g, 10, none⟩ = some (.int .i64 0) := (blk (i := 10) (u := .int .i64 0) hs.cir.box (by simp [hv8])).1
        have sz := hs.size
        have HA := Lib.hid (show rr ++ List.replicate (k + 1) 0 = (rr ++ List.replicate k 0) ++ [0] by rw [List.replicate_succ', List.append_assoc])
        generalize rr ++ List.replicate k 0 = qq at *
        go_wp2_with (first | (at_builtin; refine app_list (e' := 3) elemInt rfl _ _ rfl w.heap.size _ (k + 1) (intVals qq) rfl (hs.alloc (.cells #[.int .i64 0] 3)).wl.own wr.heap.size 1 1 _ (0, 0) rfl (heap_alloc_new wr _) rfl (oneCell_i64 [_]) (by omega) (by unfold maxLen; omega) (by omega) (by simp; omega) (wr.heap.size + 1) (by simp) ?_))
        intro g5 c5 w5 ho5 hg5 hat5 _
        have H := Lib.hid (hs.app ho5 hg5 hat5)
        clear hs ho5 hg5 hat5
        go_wp2_with fail
        go_roundw
        case rel => exact ⟨k + 1, by omega, by rw [HA.out]; exact H.out⟩
        case measure => simp; omega
      · obtain rfl : k = 3 := by omega
        have H := Lib.hid hs
        clear hs
        go_wp2_with fail
        go_ret
        refine ⟨v5, n + 4 + 1 + 5 * 4 + 1, A6, c6, rfl, rfl, by omega, ?_, H.out.turn, ?_⟩
        · exact H.out.cir
        · have := H.out.wl
          rw [← HR.out] at this
          exact this
set_option maxRecDepth 100000 in
set_option maxHeartbeats 2000000 in
theorem impl_operate_9 (B g : Nat) (v u : Value) (vs : List Value) (n m : Nat) (z os : List Int) (rg : List (List Int)) (d : Int) (a b : Nat) (ha : a < 8) (hb : b < 8) (w : World) (h : Cp B g w v u vs n m z os rg) (hB : B ≤ w.heap.size) (hn : n ≤ 900000) :
    Calls Tryz.prog 36 #[.pointer (some ⟨g, 0, none⟩), .agg #[.int .i64 9, .int .i64 d, .int .i64 a, .int .i64 b]] w (PutR B g ⟨u :: (vs ++ [.int .i64 0]), 57⟩ n (equalA z (rg.getD a []) (rg.getD b [])).1 [(equalA z (rg.getD a []) (rg.getD b [])).2, 0, 0, 0] v w) := by
  have al := below_alloc w (.cells #[.int .i64 9, .int .i64 d, .int .i64 a, .int .i64 b] 87)
  have b0 := heap_alloc_new w (.cells #[.int .i64 9, .int .i64 d, .int .i64 a, .int .i64 b] 87)
  have k0 := h.below al
  have gl := h.cir.lt
  have hv8 := h.tab.vlen
  obtain ⟨A, c, ea, dc, la, ra⟩ := h.tab.row a ha
  obtain ⟨A', c', eb, dc', lb, rb⟩ := h.tab.row b hb
  have ca := (k0.cell ha ea).1
  have cb := (k0.cell hb eb).1
  have na : w.heap.size ≠ g := by omega
  have nv : v.ownBlock ≠ some w.heap.size := fun e => by have := (h.cir.own.lt _ e).2; omega
  have oa := ra.off.below al
  have ob := rb.off.below al
  have B0 : B ≤ (w.alloc (.cells #[.int .i64 9, .int .i64 d, .int .i64 a, .int .i64 b] 87)).heap.size := by simp; omega
  obtain ⟨x0, -⟩ := blk (i := 0) b0 rfl
  obtain ⟨x2, -⟩ := blk (i := 2) b0 rfl
  obtain ⟨x3, -⟩ := blk (i := 3) b0 rfl
  have a0 : (0 : Int) ≤ a := by omega
  have a1 : (a : Int) < 8 := by omega
  have p0 : (0 : Int) ≤ b := by omega
  have p1 : (b : Int) < 8 := by omega
  have wa := wb_at9
  go_enter Tryz.func36, Tryz.ntmps36
  go_wp2_with fail
  generalize w.alloc (.cells #[.int .i64 9, .int .i64 d, .int .i64 a, .int .i64 b] 87) = w0 at *
  generalize rg.getD a [] = ra0 at *
  generalize rg.getD b [] = rb0 at *
  go_cut [5] (fun s wx => ∃ (v' : Value) (A5 : Option Addr) (c5 : Nat), s = .slice A5 1 c5 ∧ Cir B g wx v' ⟨u :: (vs ++ [.int .i64 0]), 57⟩ (n + 2 * 4 + 3) (equalA z ra0 rb0).1 ∧ Turn g v w0 v' wx ∧ Wl g v' w0.heap.size wx (.slice A5 1 c5) 1 [(equalA z ra0 rb0).2])
  case first =>
    have d0 : w0.drew.cell? ⟨w.heap.size, 0, none⟩ = some (.int .i64 9) := x0
    have d2 : w0.drew.cell? ⟨w.heap.size, 2, none⟩ = some (.int .i64 a) := x2
    have d3 : w0.drew.cell? ⟨w.heap.size, 3, none⟩ = some (.int .i64 b) := x3
    have kd := k0.drew
    have oad := oa.drew
    have obd := ob.drew
    have Bd : B ≤ w0.drew.heap.size := B0
    go_region_held3 (fun w' => w'.cell? ⟨w.heap.size, 0, none⟩ = some (.int .i64 9) ∧ w'.cell? ⟨w.heap.size, 2, none⟩ = some (.int .i64 a) ∧ w'.cell? ⟨w.heap.size, 3, none⟩ = some (.int .i64 b) ∧ w'.cell? ⟨g, 2 + a, none⟩ = some (.slice A 4 c) ∧ w'.cell? ⟨g, 2 + b, none⟩ = some (.slice A' 4 c')) (first | exact ⟨x0, x2, x3, ca, cb⟩ | exact ⟨y0, y2, y3, ya, yb⟩ | exact ⟨z0, z2, z3, za, zb⟩) (first
      | (go_at_call 58; (with_reducible refine (impl_wordBuilders _).mono ?_); rintro e w2 ⟨rfl, hb2⟩; (have y0 := cell_on d0 hb2); (have y2 := cell_on d2 hb2); (have y3 := cell_on d3 hb2); (have k2 := kd.below hb2); (have ya := (k2.cell ha ea).1); (have yb := (k2.cell hb eb).1); (have oa2 := oad.below hb2); (have ob2 := obd.below hb2); (have B2 := Nat.le_trans Bd hb2.size))
      | (go_at_call 81; (with_reducible refine (impl_equalBit B g n v _ z A c _ A' c' _ w2 k2.cir B2 oa2 la ob2 lb (by omega)).mono ?_); rintro e w3 ⟨v3, A3, j3, c3, rfl, l3, h3, t3, wl3⟩; (have z0 := t3.cell y0 na nv); (have z2 := t3.cell y2 na nv); (have z3 := t3.cell y3 na nv); (have k3 := k2.next h3 t3); (have za := (k3.cell ha ea).1); (have zb := (k3.cell hb eb).1)))
    all_goals
      have T := Lib.hid (((Turn.refl g v w0).drew.below hb2).trans t3)
      have C := Lib.hid (And.intro h3 (wl3.mono (B' := w0.heap.size) hb2.size))
      have l4 : j3 = 1 := by rw [← l3, List.length_singleton]
      subst l4
      clear h3 t3 wl3 k3 za zb z0 z2 z3 k2 ya yb y0 y2 y3 oa2 ob2 hb2
      go_wp2_with fail
      go_meet
      exact ⟨v3, A3, c3, rfl, C.out.1, T.out, C.out.2⟩
  case rest =>
    obtain ⟨v5, A5, c5, rfl, h5, t5, w5⟩ := hcut
    have S0 := Lib.hid (show Bl B g v w wc v5 ⟨u :: (vs ++ [.int .i64 0]), 57⟩ (n + 2 * 4 + 3) (equalA z ra0 rb0).1 (.slice A5 1 c5) 1 [(equalA z ra0 rb0).2] from ⟨h5, (Turn.refl g v w).below al |>.trans t5, w5.mono (B' := w.heap.size) al.size⟩)
    clear h5 t5 w5 k0 h ca cb x0 x2 x3 oa ob ra rb
    generalize (equalA z ra0 rb0).1 = zz at *
    generalize hR0 : [(equalA z ra0 rb0).2] = rr at *
    have HR := Lib.hid hR0
    clear hR0
    go_wp2_with fail
    go_loopw [5] (fun s wr => ∃ k : Nat, k ≤ 3 ∧ Bl B g v w wr v5 ⟨u :: (vs ++ [.int .i64 0]), 57⟩ (n + 2 * 4 + 3) zz s (k + 1) (rr ++ List.replicate k 0)) (fun s _ => 4 - (match s with | .slice _ k _ => k | _ => 0))
    case atStart => exact ⟨0, by omega, by simpa using S0.out⟩
    case round =>
      obtain ⟨k, hk, hs⟩ := hrel
      clear S0
      obtain ⟨A6, c6, rfl⟩ := hs.wl.form
      by_cases hlt : k < 3
      · have k0 : (0 : Int) ≤ k := by omega
        have k1 : (k : Int) + 1 < 4 := by omega
        have q0 : wr.cell? ⟨g, 10, none⟩ = some (.int .i64 0) := (blk (i := 10) (u := .int .i64 0) hs.cir.box (by simp [hv8])).1
        have sz := hs.size
        have HA := Lib.hid (show rr ++ List.replicate (k + 1) 0 = (rr ++ List.replicate k 0) ++ [0] by rw [List.replicate_succ', List.append_assoc])
        generalize rr ++ List.replicate k 0 = qq at *
        go_wp2_with (first | (at_builtin; refine app_list (e' := 3) elemInt rfl _ _ rfl w.heap.size _ (k + 1) (intVals qq) rfl (hs.alloc (.cells #[.int .i64 0] 3)).wl.own wr.heap.size 1 1 _ (0, 0) rfl (heap_alloc_new wr _) rfl (oneCell_i64 [_]) (by omega) (by unfold maxLen; omega) (by omega) (by simp; omega) (wr.heap.size + 1) (by simp) ?_))
        intro g5 c5 w5 ho5 hg5 hat5 _
        have H := Lib.hid (hs.app ho5 hg5 hat5)
        clear hs ho5 hg5 hat5
        go_wp2_with fail
        go_roundw
        case rel => exact ⟨k + 1, by omega, by rw [HA.out]; exact H.out⟩
        case measure => simp; omega
      · obtain rfl : k = 3 := by omega
        have H := Lib.hid hs
        clear hs
        go_wp2_with fail
        go_ret
        refine ⟨v5, n + 2 * 4 + 3, A6, c6, rfl, rfl, by omega, ?_, H.out.turn, ?_⟩
        · exact H.out.cir
        · have := H.out.wl
          rw [← HR.out] at this
          exact this
end Go.Proofs.YtjfmcdfgccdmpaaGreat

namespace Go.Proofs.YtjfmcdfgccdmpaaGreat
open Go Go.RowKit
theorem impl_operate (B g : Nat) (v u : Value) (vs : List Value) (n m : Nat) (z os : List Int) (rg : List (List Int)) (op d c k : Int) (a b : Nat) (ho : 3 ≤ op ∧ op ≤ 9) (ha : a < 8) (hb : b < 8) (w : World) (h : Cp B g w v u vs n m z os rg) (hB : B ≤ w.heap.size) (hn : n ≤ 900000) :
    Calls Tryz.prog 36 #[.pointer (some ⟨g, 0, none⟩), .agg #[.int .i64 op, .int .i64 d, .int .i64 a, .int .i64 b]] w (PutR B g ⟨u :: (vs ++ [.int .i64 0]), 57⟩ n (wordG z rg 0 op a b c k).1 (wordG z rg 0 op a b c k).2 v w) := by
  rcases (show op = 3 ∨ op = 4 ∨ op = 5 ∨ op = 6 ∨ op = 7 ∨ op = 8 ∨ op = 9 by omega) with rfl | rfl | rfl | rfl | rfl | rfl | rfl
  · exact impl_operate_3 B g v u vs n m z os rg d a b ha hb w h hB hn
  · exact impl_operate_4 B g v u vs n m z os rg d a b ha hb w h hB hn
  · exact impl_operate_5 B g v u vs n m z os rg d a b ha hb w h hB hn
  · exact impl_operate_6 B g v u vs n m z os rg d a b ha hb w h hB hn
  · exact impl_operate_7 B g v u vs n m z os rg d a b ha hb w h hB hn
  · exact impl_operate_8 B g v u vs n m z os rg d a b ha hb w h hB hn
  · exact impl_operate_9 B g v u vs n m z os rg d a b ha hb w h hB hn
end Go.Proofs.YtjfmcdfgccdmpaaGreat
