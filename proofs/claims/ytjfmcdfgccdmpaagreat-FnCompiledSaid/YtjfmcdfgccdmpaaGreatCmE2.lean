/- Compilation: the gates of a statement: the program's, the rest. No condition. -/
import Derived.Test.YtjfmcdfgccdmpaaGreatProg
import Derived.Test.YtjfmcdfgccdmpaaGreatCD
import Derived.Test.YtjfmcdfgccdmpaaGreatCE
import Derived.Test.YtjfmcdfgccdmpaaGreatStmt
import Derived.Test.YtjfmcdfgccdmpaaGreatB1
import Derived.Deep.RegionLaw
namespace Go.Proofs.YtjfmcdfgccdmpaaGreat
open Go Go.RowKit
set_option maxRecDepth 100000 in
set_option maxHeartbeats 2000000 in
theorem impl_add_mux (B g : Nat) (v u : Value) (vs : List Value) (n m : Nat) (z os : List Int) (rg : List (List Int)) (d a b c : Nat) (hd : d < 8) (alt : a < 8) (blt : b < 8) (clt : c < 8) (w : World) (h : Cp B g w v u vs n m z os rg) (hB : B ≤ w.heap.size) (hn : n ≤ 900000) :
    Calls Tryz.prog 19 #[.pointer (some ⟨g, 0, none⟩), (Ty.mux d a b c).v] w (AddP B g n (muxAt z ((rg.getD a []).getD 0 0) (rg.getD b []) (rg.getD c []) 4).1 os (rg.set d (muxAt z ((rg.getD a []).getD 0 0) (rg.getD b []) (rg.getD c []) 4).2) w) := by
  have al := below_alloc w (.cells #[.int .i64 d, .int .i64 a, .int .i64 b, .int .i64 c] 89)
  have b0 := heap_alloc_new w (.cells #[.int .i64 d, .int .i64 a, .int .i64 b, .int .i64 c] 89)
  have k0 := h.below al
  have gl := h.cir.lt
  have na : w.heap.size ≠ g := by omega
  have nv : v.ownBlock ≠ some w.heap.size := fun e => by have := (h.cir.own.lt _ e).2; omega
  have B0 : B ≤ (w.alloc (.cells #[.int .i64 d, .int .i64 a, .int .i64 b, .int .i64 c] 89)).heap.size := by simp; omega
  have g0 : g < (w.alloc (.cells #[.int .i64 d, .int .i64 a, .int .i64 b, .int .i64 c] 89)).heap.size := by simp; omega
  have u0 : ∀ q, u.ownBlock = some q → q < (w.alloc (.cells #[.int .i64 d, .int .i64 a, .int .i64 b, .int .i64 c] 89)).heap.size := fun q e => by have := (h.outs.own.lt _ e).2; simp; omega
  have lowA : Below B w (w.alloc (.cells #[.int .i64 d, .int .i64 a, .int .i64 b, .int .i64 c] 89)) := al.mono hB
  obtain ⟨x0, -⟩ := blk (i := 0) b0 rfl
  obtain ⟨x1, -⟩ := blk (i := 1) b0 rfl
  obtain ⟨x2, -⟩ := blk (i := 2) b0 rfl
  obtain ⟨x3, -⟩ := blk (i := 3) b0 rfl
  have as0 := as_con (.mux d a b c)
  have as1 := as_inp (.mux d a b c)
  have as2 := as_bin (.mux d a b c)
  have as3 := as_mux (.mux d a b c)
  obtain ⟨Aa, ca, ae, _, la, ra⟩ := h.tab.row a alt
  obtain ⟨Ab, cb, be, _, lb, rb⟩ := h.tab.row b blt
  obtain ⟨Ac, cc, ce, _, lc, rc⟩ := h.tab.row c clt
  obtain ⟨ka, oa, rfl, qa⟩ := (ra.tn ((Tn.refl g g v u w).below al)).at_ (j := 0) (by omega)
  rw [Nat.add_zero] at qa
  have ob := rb.off.below al
  have oc := rc.off.below al
  generalize (rg.getD a []).getD 0 0 = sa at *
  have rd0 : (0 : Int) ≤ d := by omega
  have rd1 : (d : Int) < 8 := by omega
  have ra0 : (0 : Int) ≤ a := by omega
  have ra1 : (a : Int) < 8 := by omega
  have rb0 : (0 : Int) ≤ b := by omega
  have rb1 : (b : Int) < 8 := by omega
  have rc0 : (0 : Int) ≤ c := by omega
  have rc1 : (c : Int) < 8 := by omega
  simp only [Ty.v] at *
  go_enter Tryz.func19, Tryz.ntmps19
  go_upto_region 12 with (fail)
  generalize w.alloc (.cells #[.int .i64 d, .int .i64 a, .int .i64 b, .int .i64 c] 89) = w0 at *
  have ga := (k0.drew.cell alt ae).1
  have ya : w0.drew.cell? ⟨w.heap.size, 1, none⟩ = some (.int .i64 a) := x1
  have qd : w0.drew.cell? ⟨ka, oa, none⟩ = some (.int .i64 sa) := qa
  go_region_held3 (fun w' => w'.cell? ⟨w.heap.size, 1, none⟩ = some (.int .i64 a) ∧ w'.cell? ⟨g, 2 + a, none⟩ = some (.slice (some ⟨ka, oa, none⟩) 4 ca) ∧ w'.cell? ⟨ka, oa, none⟩ = some (.int .i64 sa)) (first | exact ⟨ya, ga, qd⟩) (first | fail)
  clear ya ga qd
  go_upto_region 13 with (fail)
  have obd := ob.drew.drew
  have ocd := oc.drew.drew
  have d0 : w0.drew.drew.cell? ⟨w.heap.size, 0, none⟩ = some (.int .i64 d) := x0
  have d1 : w0.drew.drew.cell? ⟨w.heap.size, 1, none⟩ = some (.int .i64 a) := x1
  have d2 : w0.drew.drew.cell? ⟨w.heap.size, 2, none⟩ = some (.int .i64 b) := x2
  have d3 : w0.drew.drew.cell? ⟨w.heap.size, 3, none⟩ = some (.int .i64 c) := x3
  have eb : w0.drew.drew.cell? _ = _ := (k0.drew.drew.cell blt be).1
  have ec : w0.drew.drew.cell? _ = _ := (k0.drew.drew.cell clt ce).1
  have kd := k0.drew.drew
  have Bd : B ≤ w0.drew.drew.heap.size := B0
  go_region_law (first
    | (go_simp; go_at_call 37; (with_reducible refine (impl_mux B g n v _ z sa Ab cb _ Ac cc _ _ kd.cir Bd obd lb ocd lc (by omega)).mono ?_); rintro e w3 ⟨v3, A3, j3, c3, rfl, l3, h3, t3, wl3⟩; (have l4 : j3 = 4 := by rw [← l3, muxAt_len4]); (subst l4); (have z0 := t3.cell d0 na nv); (have z1 := t3.cell d1 na nv); (have z2 := t3.cell d2 na nv); (have z3 := t3.cell d3 na nv); (have k3 := kd.next h3 t3); (obtain ⟨s1, f1⟩ := k3.cell hd rfl); (have hc4 := wl3.cap); (have kk := k3.set hd hc4 l3 (wl3.rw (by omega) g0 u0))))
  all_goals
    have T := Lib.hid (lowA.trans (((Turn.refl g v w0).drew.drew.trans t3).low k0.low k0.vlt B0))
    have KK := Lib.hid kk
    clear kk h3 t3 wl3 k3 s1 f1 z0 z1 z2 z3
    go_wp2_with fail
    refine bodyPost_ret (results_none rfl _ _ _) rfl ?_
    exact ⟨v3, u, _, _, m, rfl, by omega, KK.out, T.out.setCell (p := ⟨g, 2 + d, none⟩) h.low _⟩
end Go.Proofs.YtjfmcdfgccdmpaaGreat
