/- Compilation: the gates of a statement: the program's. No condition. And what goes with it. -/
import Derived.Test.YtjfmcdfgccdmpaaGreatProg
import Derived.Test.YtjfmcdfgccdmpaaGreatCD
import Derived.Test.YtjfmcdfgccdmpaaGreatStmt
import Derived.Test.YtjfmcdfgccdmpaaGreatB1
import Derived.Deep.RegionLaw
namespace Go.Proofs.YtjfmcdfgccdmpaaGreat
open Go Go.RowKit
/-- The gates of a statement were appended, a register's word perhaps set, or outputs added. -/
def AddP (B g : Nat) (n : Nat) (z' os' : List Int) (rg' : List (List Int)) (w : World) (e : Ending) (w' : World) : Prop :=
  ∃ (v' u' : Value) (vs' : List Value) (n' m' : Nat), e = .returned (.tuple #[]) ∧ n' ≤ n + 34 ∧ Cp B g w' v' u' vs' n' m' z' os' rg' ∧ Below B w w'
set_option maxRecDepth 100000 in
set_option maxHeartbeats 2000000 in
theorem impl_add_con (B g : Nat) (v u : Value) (vs : List Value) (n m : Nat) (z os : List Int) (rg : List (List Int)) (d : Nat) (hd : d < 8) (k : Int) (hk : 0 ≤ k ∧ k ≤ 15) (w : World) (h : Cp B g w v u vs n m z os rg) (hB : B ≤ w.heap.size) (hn : n ≤ 900000) :
    Calls Tryz.prog 19 #[.pointer (some ⟨g, 0, none⟩), (Ty.con d k).v] w (AddP B g n (constAt z k 4).1 os (rg.set d (constAt z k 4).2) w) := by
  have al := below_alloc w (.cells #[.int .i64 d, .int .i64 k] 83)
  have b0 := heap_alloc_new w (.cells #[.int .i64 d, .int .i64 k] 83)
  have k0 := h.below al
  have gl := h.cir.lt
  have na : w.heap.size ≠ g := by omega
  have nv : v.ownBlock ≠ some w.heap.size := fun e => by have := (h.cir.own.lt _ e).2; omega
  have B0 : B ≤ (w.alloc (.cells #[.int .i64 d, .int .i64 k] 83)).heap.size := by simp; omega
  have g0 : g < (w.alloc (.cells #[.int .i64 d, .int .i64 k] 83)).heap.size := by simp; omega
  have u0 : ∀ q, u.ownBlock = some q → q < (w.alloc (.cells #[.int .i64 d, .int .i64 k] 83)).heap.size := fun q e => by have := (h.outs.own.lt _ e).2; simp; omega
  have lowA : Below B w (w.alloc (.cells #[.int .i64 d, .int .i64 k] 83)) := al.mono hB
  obtain ⟨x0, -⟩ := blk (i := 0) b0 rfl
  obtain ⟨x1, -⟩ := blk (i := 1) b0 rfl
  have as0 := as_con (.con d k)
  have rd0 : (0 : Int) ≤ d := by omega
  have rd1 : (d : Int) < 8 := by omega
  simp only [Ty.v] at *
  go_enter Tryz.func19, Tryz.ntmps19
  go_upto_region 3 with (fail)
  generalize w.alloc (.cells #[.int .i64 d, .int .i64 k] 83) = w0 at *
  have d0 : w0.drew.cell? ⟨w.heap.size, 0, none⟩ = some (.int .i64 d) := x0
  have d1 : w0.drew.cell? ⟨w.heap.size, 1, none⟩ = some (.int .i64 k) := x1
  have kd := k0.drew
  have Bd : B ≤ w0.drew.heap.size := B0
  go_region_held3 (fun w' => w'.cell? ⟨w.heap.size, 0, none⟩ = some (.int .i64 d) ∧ w'.cell? ⟨w.heap.size, 1, none⟩ = some (.int .i64 k)) (first | exact ⟨d0, d1⟩ | exact ⟨z0, z1⟩ | exact ⟨q0, q1⟩) (first
    | (go_at_call 34; (with_reducible refine (impl_number B g n v _ z k hk _ kd.cir Bd (by omega)).mono ?_); rintro e w3 ⟨v3, A3, j3, c3, rfl, l3, h3, t3, wl3⟩; (have l4 : j3 = 4 := by rw [← l3, constAt_len4]); (subst l4); (have z0 := t3.cell d0 na nv); (have z1 := t3.cell d1 na nv); (have k3 := kd.next h3 t3); (obtain ⟨s1, f1⟩ := k3.cell hd rfl); (have q0 := (World.cell?_setCell_far w3 ⟨g, 2 + d, none⟩ ⟨w.heap.size, 0, none⟩ (.slice A3 4 c3) (fun e => na e.symm)).trans z0); (have q1 := (World.cell?_setCell_far w3 ⟨g, 2 + d, none⟩ ⟨w.heap.size, 1, none⟩ (.slice A3 4 c3) (fun e => na e.symm)).trans z1); (have hc4 := wl3.cap); (have kk := k3.set hd hc4 l3 (wl3.rw (by omega) g0 u0))))
  all_goals
    have T := Lib.hid (lowA.trans (((Turn.refl g v w0).drew.trans t3).low k0.low k0.vlt B0))
    have KK := Lib.hid kk
    clear kk h3 t3 wl3 k3 s1 f1 z0 q0 z1 q1
    go_wp2_with fail
    refine bodyPost_ret (results_none rfl _ _ _) rfl ?_
    exact ⟨v3, u, _, _, m, rfl, by omega, KK.out, T.out.setCell (p := ⟨g, 2 + d, none⟩) h.low _⟩
set_option maxRecDepth 100000 in
set_option maxHeartbeats 2000000 in
theorem impl_add_inp (B g : Nat) (v u : Value) (vs : List Value) (n m : Nat) (z os : List Int) (rg : List (List Int)) (d p k : Nat) (hd : d < 8) (hp : p ≤ 4) (hk : k ≤ 3) (w : World) (h : Cp B g w v u vs n m z os rg) (hB : B ≤ w.heap.size) (hn : n ≤ 900000) :
    Calls Tryz.prog 19 #[.pointer (some ⟨g, 0, none⟩), (Ty.inp d p k).v] w (AddP B g n (inAt z (p * 4 + k : Nat) 4).1 os (rg.set d (inAt z (p * 4 + k : Nat) 4).2) w) := by
  have al := below_alloc w (.cells #[.int .i64 d, .int .i64 p, .int .i64 k] 85)
  have b0 := heap_alloc_new w (.cells #[.int .i64 d, .int .i64 p, .int .i64 k] 85)
  have k0 := h.below al
  have gl := h.cir.lt
  have na : w.heap.size ≠ g := by omega
  have nv : v.ownBlock ≠ some w.heap.size := fun e => by have := (h.cir.own.lt _ e).2; omega
  have B0 : B ≤ (w.alloc (.cells #[.int .i64 d, .int .i64 p, .int .i64 k] 85)).heap.size := by simp; omega
  have g0 : g < (w.alloc (.cells #[.int .i64 d, .int .i64 p, .int .i64 k] 85)).heap.size := by simp; omega
  have u0 : ∀ q, u.ownBlock = some q → q < (w.alloc (.cells #[.int .i64 d, .int .i64 p, .int .i64 k] 85)).heap.size := fun q e => by have := (h.outs.own.lt _ e).2; simp; omega
  have lowA : Below B w (w.alloc (.cells #[.int .i64 d, .int .i64 p, .int .i64 k] 85)) := al.mono hB
  obtain ⟨x0, -⟩ := blk (i := 0) b0 rfl
  obtain ⟨x1, -⟩ := blk (i := 1) b0 rfl
  obtain ⟨x2, -⟩ := blk (i := 2) b0 rfl
  have as0 := as_con (.inp d p k)
  have as1 := as_inp (.inp d p k)
  have rd0 : (0 : Int) ≤ d := by omega
  have rd1 : (d : Int) < 8 := by omega
  simp only [Ty.v] at *
  go_enter Tryz.func19, Tryz.ntmps19
  go_upto_region 6 with (fail)
  generalize w.alloc (.cells #[.int .i64 d, .int .i64 p, .int .i64 k] 85) = w0 at *
  have d0 : w0.drew.cell? ⟨w.heap.size, 0, none⟩ = some (.int .i64 d) := x0
  have d1 : w0.drew.cell? ⟨w.heap.size, 1, none⟩ = some (.int .i64 p) := x1
  have d2 : w0.drew.cell? ⟨w.heap.size, 2, none⟩ = some (.int .i64 k) := x2
  have kd := k0.drew
  have Bd : B ≤ w0.drew.heap.size := B0
  go_region_held3 (fun w' => w'.cell? ⟨w.heap.size, 0, none⟩ = some (.int .i64 d) ∧ w'.cell? ⟨w.heap.size, 1, none⟩ = some (.int .i64 p) ∧ w'.cell? ⟨w.heap.size, 2, none⟩ = some (.int .i64 k)) (first | exact ⟨d0, d1, d2⟩ | exact ⟨z0, z1, z2⟩ | exact ⟨q0, q1, q2⟩) (first
    | (go_at_call 35; (with_reducible refine (impl_input B g n v _ z p k hp hk _ kd.cir Bd (by omega)).mono ?_); rintro e w3 ⟨v3, A3, j3, c3, rfl, l3, h3, t3, wl3⟩; (have l4 : j3 = 4 := by rw [← l3, inAt_len4]); (subst l4); (have z0 := t3.cell d0 na nv); (have z1 := t3.cell d1 na nv); (have z2 := t3.cell d2 na nv); (have k3 := kd.next h3 t3); (obtain ⟨s1, f1⟩ := k3.cell hd rfl); (have q0 := (World.cell?_setCell_far w3 ⟨g, 2 + d, none⟩ ⟨w.heap.size, 0, none⟩ (.slice A3 4 c3) (fun e => na e.symm)).trans z0); (have q1 := (World.cell?_setCell_far w3 ⟨g, 2 + d, none⟩ ⟨w.heap.size, 1, none⟩ (.slice A3 4 c3) (fun e => na e.symm)).trans z1); (have q2 := (World.cell?_setCell_far w3 ⟨g, 2 + d, none⟩ ⟨w.heap.size, 2, none⟩ (.slice A3 4 c3) (fun e => na e.symm)).trans z2); (have hc4 := wl3.cap); (have kk := k3.set hd hc4 l3 (wl3.rw (by omega) g0 u0))))
  all_goals
    have T := Lib.hid (lowA.trans (((Turn.refl g v w0).drew.trans t3).low k0.low k0.vlt B0))
    have KK := Lib.hid kk
    clear kk h3 t3 wl3 k3 s1 f1 z0 q0 z1 q1 z2 q2
    go_wp2_with fail
    refine bodyPost_ret (results_none rfl _ _ _) rfl ?_
    exact ⟨v3, u, _, _, m, rfl, by omega, KK.out, T.out.setCell (p := ⟨g, 2 + d, none⟩) h.low _⟩
set_option maxRecDepth 100000 in
set_option maxHeartbeats 2000000 in
theorem impl_add_bin (B g : Nat) (v u : Value) (vs : List Value) (n m : Nat) (z os : List Int) (rg : List (List Int)) (op c k : Int) (d a b : Nat) (ho : 3 ≤ op ∧ op ≤ 9) (hd : d < 8) (alt : a < 8) (blt : b < 8) (w : World) (h : Cp B g w v u vs n m z os rg) (hB : B ≤ w.heap.size) (hn : n ≤ 900000) :
    Calls Tryz.prog 19 #[.pointer (some ⟨g, 0, none⟩), (Ty.bin op d a b).v] w (AddP B g n (wordG z rg 0 op a b c k).1 os (rg.set d (wordG z rg 0 op a b c k).2) w) := by
  have al := below_alloc w (.cells #[.int .i64 op, .int .i64 d, .int .i64 a, .int .i64 b] 87)
  have b0 := heap_alloc_new w (.cells #[.int .i64 op, .int .i64 d, .int .i64 a, .int .i64 b] 87)
  have k0 := h.below al
  have gl := h.cir.lt
  have na : w.heap.size ≠ g := by omega
  have nv : v.ownBlock ≠ some w.heap.size := fun e => by have := (h.cir.own.lt _ e).2; omega
  have B0 : B ≤ (w.alloc (.cells #[.int .i64 op, .int .i64 d, .int .i64 a, .int .i64 b] 87)).heap.size := by simp; omega
  have g0 : g < (w.alloc (.cells #[.int .i64 op, .int .i64 d, .int .i64 a, .int .i64 b] 87)).heap.size := by simp; omega
  have u0 : ∀ q, u.ownBlock = some q → q < (w.alloc (.cells #[.int .i64 op, .int .i64 d, .int .i64 a, .int .i64 b] 87)).heap.size := fun q e => by have := (h.outs.own.lt _ e).2; simp; omega
  have lowA : Below B w (w.alloc (.cells #[.int .i64 op, .int .i64 d, .int .i64 a, .int .i64 b] 87)) := al.mono hB
  obtain ⟨x0, -⟩ := blk (i := 0) b0 rfl
  obtain ⟨x1, -⟩ := blk (i := 1) b0 rfl
  obtain ⟨x2, -⟩ := blk (i := 2) b0 rfl
  obtain ⟨x3, -⟩ := blk (i := 3) b0 rfl
  have as0 := as_con (.bin op d a b)
  have as1 := as_inp (.bin op d a b)
  have as2 := as_bin (.bin op d a b)
  have rd0 : (0 : Int) ≤ d := by omega
  have rd1 : (d : Int) < 8 := by omega
  simp only [Ty.v] at *
  go_enter Tryz.func19, Tryz.ntmps19
  go_upto_region 9 with (fail)
  generalize w.alloc (.cells #[.int .i64 op, .int .i64 d, .int .i64 a, .int .i64 b] 87) = w0 at *
  have d0 : w0.drew.cell? ⟨w.heap.size, 0, none⟩ = some (.int .i64 op) := x0
  have d1 : w0.drew.cell? ⟨w.heap.size, 1, none⟩ = some (.int .i64 d) := x1
  have d2 : w0.drew.cell? ⟨w.heap.size, 2, none⟩ = some (.int .i64 a) := x2
  have d3 : w0.drew.cell? ⟨w.heap.size, 3, none⟩ = some (.int .i64 b) := x3
  have kd := k0.drew
  have Bd : B ≤ w0.drew.heap.size := B0
  go_region_held3 (fun w' => w'.cell? ⟨w.heap.size, 0, none⟩ = some (.int .i64 op) ∧ w'.cell? ⟨w.heap.size, 1, none⟩ = some (.int .i64 d) ∧ w'.cell? ⟨w.heap.size, 2, none⟩ = some (.int .i64 a) ∧ w'.cell? ⟨w.heap.size, 3, none⟩ = some (.int .i64 b)) (first | exact ⟨d0, d1, d2, d3⟩ | exact ⟨z0, z1, z2, z3⟩ | exact ⟨q0, q1, q2, q3⟩) (first
    | (go_at_call 36; (with_reducible refine (impl_operate B g v u vs n m z os rg op d c k a b ho alt blt _ kd Bd hn).mono ?_); rintro e w3 ⟨v3, n3, A3, c3, rfl, l3, hn3, h3, t3, wl3⟩; (have z0 := t3.cell d0 na nv); (have z1 := t3.cell d1 na nv); (have z2 := t3.cell d2 na nv); (have z3 := t3.cell d3 na nv); (have k3 := kd.next h3 t3); (obtain ⟨s1, f1⟩ := k3.cell hd rfl); (have q0 := (World.cell?_setCell_far w3 ⟨g, 2 + d, none⟩ ⟨w.heap.size, 0, none⟩ (.slice A3 4 c3) (fun e => na e.symm)).trans z0); (have q1 := (World.cell?_setCell_far w3 ⟨g, 2 + d, none⟩ ⟨w.heap.size, 1, none⟩ (.slice A3 4 c3) (fun e => na e.symm)).trans z1); (have q2 := (World.cell?_setCell_far w3 ⟨g, 2 + d, none⟩ ⟨w.heap.size, 2, none⟩ (.slice A3 4 c3) (fun e => na e.symm)).trans z2); (have q3 := (World.cell?_setCell_far w3 ⟨g, 2 + d, none⟩ ⟨w.heap.size, 3, none⟩ (.slice A3 4 c3) (fun e => na e.symm)).trans z3); (have hc4 := wl3.cap); (have kk := k3.set hd hc4 l3 (wl3.rw (by omega) g0 u0))))
  all_goals
    have T := Lib.hid (lowA.trans (((Turn.refl g v w0).drew.trans t3).low k0.low k0.vlt B0))
    have KK := Lib.hid kk
    clear kk h3 t3 wl3 k3 s1 f1 z0 q0 z1 q1 z2 q2 z3 q3
    go_wp2_with fail
    refine bodyPost_ret (results_none rfl _ _ _) rfl ?_
    exact ⟨v3, u, _, n3, m, rfl, hn3, KK.out, T.out.setCell (p := ⟨g, 2 + d, none⟩) h.low _⟩
end Go.Proofs.YtjfmcdfgccdmpaaGreat

namespace Go.Proofs.YtjfmcdfgccdmpaaGreat
open Go Go.RowKit
set_option maxRecDepth 100000 in
set_option maxHeartbeats 2000000 in
theorem impl_add_out (B g : Nat) (v u : Value) (vs : List Value) (n m : Nat) (z os : List Int) (rg : List (List Int)) (a : Nat) (alt : a < 8) (w : World) (h : Cp B g w v u vs n m z os rg) (hB : B ≤ w.heap.size) (hm : m ≤ 100000) :
    Calls Tryz.prog 19 #[.pointer (some ⟨g, 0, none⟩), (Ty.out a).v] w (AddP B g n z (os ++ rg.getD a []) rg w) := by
  have al := below_alloc w (.cells #[.int .i64 a] 91)
  have b0 := heap_alloc_new w (.cells #[.int .i64 a] 91)
  have k0 := h.below al
  have gl := h.cir.lt
  have na : w.heap.size ≠ g := by omega
  have nv : v.ownBlock ≠ some w.heap.size := fun e => by have := (h.cir.own.lt _ e).2; omega
  have B0 : B ≤ (w.alloc (.cells #[.int .i64 a] 91)).heap.size := by simp; omega
  have g0 : g < (w.alloc (.cells #[.int .i64 a] 91)).heap.size := by simp; omega
  have u0 : ∀ q, u.ownBlock = some q → q < (w.alloc (.cells #[.int .i64 a] 91)).heap.size := fun q e => by have := (h.outs.own.lt _ e).2; simp; omega
  have lowA : Below B w (w.alloc (.cells #[.int .i64 a] 91)) := al.mono hB
  obtain ⟨x0, -⟩ := blk (i := 0) b0 rfl
  have as0 := as_con (.out a)
  have as1 := as_inp (.out a)
  have as2 := as_bin (.out a)
  have as3 := as_mux (.out a)
  have as4 := as_out (.out a)
  have ra0 : (0 : Int) ≤ a := by omega
  have ra1 : (a : Int) < 8 := by omega
  obtain ⟨Aa, ca, ae, _, la, rA⟩ := h.tab.row a alt
  have ia := (rA.tn ((Tn.refl g g v u w).below al)).ints
  obtain ⟨A0, c0, rfl⟩ := h.outs.form
  simp only [Ty.v] at *
  go_enter Tryz.func19, Tryz.ntmps19
  go_upto_region 16 with (fail)
  generalize w.alloc (.cells #[.int .i64 a] 91) = w0 at *
  have kd := k0.drew
  have Bd : B ≤ w0.drew.heap.size := B0
  have iad : Ints w0.drew Aa (rg.getD a []) := ia
  have d0 : w0.drew.cell? ⟨w.heap.size, 0, none⟩ = some (.int .i64 a) := x0
  obtain ⟨e1, f1⟩ := kd.one
  obtain ⟨e2, f2⟩ := kd.cell alt ae
  go_region_law (first
    | (refine step_app_ints elemInt (by rfl) (.tmp 100) (.tmp 107) (by rfl) B (.slice A0 m c0) m (intVals os) (by rfl) kd.outs.own Aa 4 ca (rg.getD a []) (by rfl) iad la (by unfold maxLen; omega) (by omega) Bd ?_; intro v5 w5 ho5 hg5 hat5; (obtain ⟨A5, q5, c5, rfl, hq5⟩ := ownsRow_slice ho5); (obtain ⟨y1, fy1⟩ := blk (i := 1) (heap_grown kd.cir.box hg5 kd.outs.ne) rfl)))
  all_goals
    have L := Lib.hid (lowA.trans ((Below.refl B w0).drew.trans (kd.app_low (u' := .slice A5 q5 c5) hg5 Bd)))
    have KK := Lib.hid (kd.app ho5 hg5 hat5)
    clear ho5 hg5 hat5 y1 fy1 e1 f1 e2 f2 iad ia kd k0
    go_wp2_with fail
    refine bodyPost_ret (results_none rfl _ _ _) rfl ?_
    exact ⟨v, .slice A5 q5 c5, vs, n, m + 4, rfl, by omega, KK.out, L.out⟩
end Go.Proofs.YtjfmcdfgccdmpaaGreat
