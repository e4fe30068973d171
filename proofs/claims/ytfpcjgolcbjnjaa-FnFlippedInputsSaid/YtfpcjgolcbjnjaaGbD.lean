/- DrawGarbling: a circuit, input bits and a tape are drawn. No condition. -/
import Derived.Test.YtfpcjgolcbjnjaaProg
import Derived.Test.YtfpcjgolcbjnjaaCirI
import Derived.Test.YtfpcjgolcbjnjaaTapeD
import Derived.Test.YtfpcjgolcbjnjaaB1
import Derived.Deep.RegionLaw
namespace Go.Proofs.Ytfpcjgolcbjnjaa
open Go Go.RowKit
theorem results_ctc_row {P : Program} {fn : Func} {t p q : Tmp} {ty ty2 : TypeId} (h : fn.results = #[.cell p ty, .tmp t, .cell q ty2]) (tmps : Array Value) (w : World) (x : Value) (g g2 : Nat) (T T2 : TypeId) (cs cs2 : Array Value) (fr fr2 : Nat × Nat) (d d2 : TypeDesc)
    (hx : tmps.getD t undef = x) (hp : tmps.getD p undef = .pointer (some ⟨g, 0, none⟩)) (hq : tmps.getD q undef = .pointer (some ⟨g2, 0, none⟩)) (hg : w.heap[g]? = some (.cells cs T fr)) (hg2 : w.heap[g2]? = some (.cells cs2 T2 fr2))
    (hu : P.underlying ty = some d) (hd : (match d with | .struct _ | .array _ _ => true | _ => false) = true) (hi : (P.info? ty).map (·.size) = some cs.size)
    (hu2 : P.underlying ty2 = some d2) (hd2 : (match d2 with | .struct _ | .array _ _ => true | _ => false) = true) (hi2 : (P.info? ty2).map (·.size) = some cs2.size) :
    (results fn tmps).run P w = .ok (.tuple #[.agg cs, x, .agg cs2]) w := by
  have hp' : tmps[p]?.getD undef = .pointer (some ⟨g, 0, none⟩) := by simpa using hp
  have hq' : tmps[q]?.getD undef = .pointer (some ⟨g2, 0, none⟩) := by simpa using hq
  have hx' : tmps[t]?.getD undef = x := by simpa using hx
  simp [results, h, hp', hq', hx', asAddr, run_loadVar_row w g T ty cs fr d hg hu hd hi, run_loadVar_row w g2 T2 ty2 cs2 fr2 d2 hg2 hu2 hd2 hi2]
/-- A valid circuit, input bits and a valid tape. -/
def NewG (w : World) (e : Ending) (w' : World) : Prop :=
  ∃ (A0 : Option Addr) (n c0 : Nat) (z0 : List Int) (A1 : Option Addr) (m c1 : Nat) (z1 : List Int) (A2 : Option Addr) (c2 : Nat) (bs : List Int) (s a : Int), e = .returned (.tuple #[.agg #[.slice A0 n c0, .slice A1 m c1], .slice A2 80 c2, .agg #[.int .i64 s, .int .i64 a]]) ∧ (1 ≤ n ∧ n ≤ 24) ∧ m ≤ 4 ∧ gatesOk z0 n ∧ wiresOk z1 n ∧ bitsOk bs ∧ (isWord s ∧ 0 ≤ a ∧ a < 50) ∧
    z0.length = n * 3 ∧ z1.length = m ∧ Ints w' A0 z0 ∧ Ints w' A1 z1 ∧ Ints w' A2 bs ∧ Below w.heap.size w w'
set_option maxRecDepth 100000 in
set_option maxHeartbeats 2000000 in
theorem DrawGarbling_any (A : Option Addr) (n c : Nat) (w : World) (hb : Bytes w.heap.size w A n) (hn : n ≤ 2000000) :
    Calls Try.prog 11 #[.slice A n c] w (NewG w) := by
  have k0 := Bx2.start w 27 #[.slice none 0 0, .slice none 0 0] 29 #[.int .i64 0, .int .i64 0]
  have hbw := hb.more k0.low k0.low.size
  clear hb
  go_enter Try.func11, Try.ntmps11
  go_upto_region 1 with (fail)
  generalize hw0 : (w.alloc (.cells #[.slice none 0 0, .slice none 0 0] 27)).alloc (.cells #[.int .i64 0, .int .i64 0] 29) = w0 at *
  clear hw0
  go_wp2_with fail
  refine (l01New_any A n c _ hbw hn).mono ?_
  rintro e w1 ⟨g, rfl, hc1, hb1⟩
  have k1 := k0.next hb1
  have hgl := hc1.lt
  have lt0 := k0.lt
  have hg0 : w0.heap.size ≤ g := hc1.1
  have lw := k1.low
  have lt1 := k1.lt
  clear hbw
  go_wp2_with fail
  refine (l13Case_any _ g w1 hc1).mono ?_
  rintro e w2 ⟨A0, n0, c0, z0, A1, m, c1, z1, rfl, hn0, hm, hg, hw, o0, o1, R1⟩
  have ra := R1.alloc (.cells #[.slice A0 n0 c0, .slice A1 m c1] 27)
  have xb := heap_alloc_new w2 (.cells #[.slice A0 n0 c0, .slice A1 m c1] 27)
  have rb := heap_alloc (heap_draw k1.arg R1.gr (by omega)) (.cells #[.slice A0 n0 c0, .slice A1 m c1] 27)
  have rt := heap_alloc (heap_draw k1.res R1.gr (by omega)) (.cells #[.slice A0 n0 c0, .slice A1 m c1] 27)
  replace o0 := o0.alloc (.cells #[.slice A0 n0 c0, .slice A1 m c1] 27)
  replace o1 := o1.alloc (.cells #[.slice A0 n0 c0, .slice A1 m c1] 27)
  have hs2 := R1.size
  have hbl : g < w2.heap.size := by omega
  obtain ⟨n1, n24⟩ := hn0
  have HG := Lib.hid hg
  have HW := Lib.hid hw
  have L0 := Lib.hid o0.len
  have L1 := Lib.hid o1.len1
  clear hg hw
  go_upto_region 3 with (fail)
  generalize hwx : w2.heap.size = X at *
  generalize hw3 : w2.alloc (.cells #[.slice A0 n0 c0, .slice A1 m c1] 27) = wa at *
  have hsa : X < wa.heap.size := by rw [← hw3, ← hwx]; simp
  clear hw3 hwx
  go_wp2_with fail
  refine (l13Input_any _ g _ ra.cur).mono ?_
  rintro e w3 ⟨A2, c2, bs, rfl, hbs, o2, R3⟩
  have Hbs := Lib.hid hbs
  have r3 := ra.next R3.cur R3.gr
  have mg : Mid g (g + 1) wa w3 := Mid.of_grown (lo := g) (hi := g + 1) R3.gr (fun k e => by injection e with e; omega)
  replace xb := heap_draw xb R3.gr (by omega)
  replace rb := heap_draw rb R3.gr (by omega)
  replace rt := heap_draw rt R3.gr (by omega)
  replace o0 := o0.mid mg (.inr (by omega))
  replace o1 := o1.mid mg (.inr (by omega))
  have hs3 := R3.size
  clear mg hbs ra
  go_upto_region 4 with (fail)
  have rd := r3.drew
  have x0 := (blk (i := 0) xb rfl).1
  have x1 := (blk (i := 1) xb rfl).1
  go_region_law (go_simp; go_at_call 46; (with_reducible refine (l04Tape_any _ g _ rd.cur).mono ?_); rintro e w4 ⟨s, a, rfl, hs, ha0, ha1, hc4, g4⟩; (have xb4 := heap_draw (w := w3.drew) xb g4 (by omega)); (have rb4 := heap_draw (w := w3.drew) rb g4 (by omega)); (have rt4 := heap_draw (w := w3.drew) rt g4 (by omega)); (have y0 := (blk (i := 0) xb4 rfl).1); (have y1 := (blk (i := 1) xb4 rfl).1); (obtain ⟨s0, f0⟩ := blk (i := 0) rb4 rfl); (obtain ⟨s1, f1⟩ := blk (i := 1) rb4 rfl); (obtain ⟨t0, e0⟩ := blk (i := 0) rt4 rfl); (obtain ⟨t1, e1⟩ := blk (i := 1) rt4 rfl))
  all_goals
    have mg : Mid g (g + 1) w3.drew w4 := Mid.of_grown (w := w3.drew) (lo := g) (hi := g + 1) g4 (fun k e => by injection e with e; omega)
    have lowf := k0.low.trans ((below_cur hb1 hc1 (rd.gr.trans g4)).mono k0.low.size)
    have F := Lib.hid ((((lowf.setCell (p := ⟨w.heap.size, 0, none⟩) (Nat.le_refl _) (.slice A0 n0 c0)).setCell (p := ⟨w.heap.size, 1, none⟩) (Nat.le_refl _) (.slice A1 m c1)).setCell (p := ⟨w.heap.size + 1, 0, none⟩) (Nat.le_succ _) (.int .i64 s)).setCell (p := ⟨w.heap.size + 1, 1, none⟩) (Nat.le_succ _) (.int .i64 a))
    have p0 := Lib.hid ((((((o0.drew.mid mg (.inr (by omega))).setFar (g := w.heap.size) (i := 0) (by omega) (.slice A0 n0 c0)).setFar (g := w.heap.size) (i := 1) (by omega) (.slice A1 m c1)).setFar (g := w.heap.size + 1) (i := 0) (by omega) (.int .i64 s)).setFar (g := w.heap.size + 1) (i := 1) (by omega) (.int .i64 a)).ints)
    have p1 := Lib.hid ((((((o1.drew.mid mg (.inr (by omega))).setFar (g := w.heap.size) (i := 0) (by omega) (.slice A0 n0 c0)).setFar (g := w.heap.size) (i := 1) (by omega) (.slice A1 m c1)).setFar (g := w.heap.size + 1) (i := 0) (by omega) (.int .i64 s)).setFar (g := w.heap.size + 1) (i := 1) (by omega) (.int .i64 a)).ints)
    have p2 := Lib.hid ((((((o2.drew.mid mg (.inr (by omega))).setFar (g := w.heap.size) (i := 0) (by omega) (.slice A0 n0 c0)).setFar (g := w.heap.size) (i := 1) (by omega) (.slice A1 m c1)).setFar (g := w.heap.size + 1) (i := 0) (by omega) (.int .i64 s)).setFar (g := w.heap.size + 1) (i := 1) (by omega) (.int .i64 a)).ints)
    have rbf := Lib.hid (heap_far (p := ⟨w.heap.size + 1, 1, none⟩) (heap_far (p := ⟨w.heap.size + 1, 0, none⟩) (heap_set (i := 1) (heap_set (i := 0) rb4 (.slice A0 n0 c0)) (.slice A1 m c1)) (by simp) (.int .i64 s)) (by simp) (.int .i64 a))
    have rtf := Lib.hid (heap_set (i := 1) (heap_set (i := 0) (heap_far (p := ⟨w.heap.size, 1, none⟩) (heap_far (p := ⟨w.heap.size, 0, none⟩) rt4 (by simp) (.slice A0 n0 c0)) (by simp) (.slice A1 m c1)) (.int .i64 s)) (.int .i64 a))
    clear mg lowf o0 o1 o2 rb4 xb4 rt4 y0 y1 s0 s1 f0 f1 t0 t1 e0 e1 R3 rb xb rt rd R1 hc1 hb1 lw x0 x1 k0 k1 r3 hc4 g4
    go_wp2_with fail
    (try simp only [Exit.inBlock, Exit.then])
    refine bodyPost_ret (results_ctc_row (P := Try.prog) rfl _ _ _ w.heap.size (w.heap.size + 1) 27 29 _ _ (0, 0) (0, 0) _ _ rfl rfl rfl rbf.out rtf.out Try.underlying27 rfl (by kernel_rfl) Try.underlying29 rfl (by kernel_rfl)) rfl ?_
    exact ⟨A0, n0, c0, z0, A1, m, c1, z1, A2, c2, bs, s, a, rfl, ⟨n1, n24⟩, hm, HG.out, HW.out, Hbs.out, ⟨hs, ha0, ha1⟩, L0.out, L1.out, p0.out, p1.out, p2.out, F.out⟩
end Go.Proofs.Ytfpcjgolcbjnjaa
