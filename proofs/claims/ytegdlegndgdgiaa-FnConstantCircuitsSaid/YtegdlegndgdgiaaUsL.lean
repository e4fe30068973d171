/- Pruning, the program's: how often each wire is used by what is needed. No condition. -/
import Derived.Test.YtegdlegndgdgiaaProg
import Derived.Test.YtegdlegndgdgiaaUsB
import Derived.Test.YtegdlegndgdgiaaU1
import Derived.Test.YtegdlegndgdgiaaB1
import Derived.Test.YtegdlegndgdgiaaCirE
namespace Go.Proofs.Ytegdlegndgdgiaa
open Go Go.RowKit Go.Shelf
attribute [local go_sem] Oper.semAt_some
/-- The circuit's box, the map's box, and the map, which has s. -/
structure Ul (w wr : World) (x0 x1 : Value) (n : Nat) (s : US) : Prop where
  arg : wr.heap[w.heap.size]? = some (.cells #[x0, x1] 31 (0, 0))
  box : wr.heap[w.heap.size + 1 + 1]? = some (.cells #[.map (some (w.heap.size + 1))] 99 (0, 0))
  um : Um (w.heap.size + 1) n wr s.1 s.2
  low : Below w.heap.size w wr
section
variable {w wr w1 : World} {x0 x1 : Value} {n : Nat} {s s' : US}
theorem Ul.below (h : Ul w wr x0 x1 n s) (hb : Below wr.heap.size wr w1) : Ul w w1 x0 x1 n s := ⟨heap_below h.arg hb, heap_below h.box hb, h.um.below hb, h.low.trans (hb.mono h.low.size)⟩
theorem Ul.alloc (h : Ul w wr x0 x1 n s) (o : Obj) : Ul w (wr.alloc o) x0 x1 n s := h.below (below_alloc wr o)
/-- The map turns. -/
theorem Ul.move (h : Ul w wr x0 x1 n s) (hg : wr.grownBy w1 (some (w.heap.size + 1))) (hu : Um (w.heap.size + 1) n w1 s'.1 s'.2) : Ul w w1 x0 x1 n s' :=
  ⟨(hg.block _ (heap_lt h.arg) (by simp)).trans h.arg, (hg.block _ (heap_lt h.box) (by simp)).trans h.box, hu, h.low.grown hg h.low.size (fun k e => by injection e with e; omega)⟩
theorem Ul.size (h : Ul w wr x0 x1 n s) : w.heap.size + 1 + 1 < wr.heap.size := heap_lt h.box
end
/-- Blocks behind the call's own three turn. -/
theorem Ul.from_ {w wr w1 : World} {x0 x1 : Value} {n : Nat} {s : US} {row : Option Nat} (h : Ul w wr x0 x1 n s) (hg : wr.grownBy w1 row) (hr : ∀ r, row = some r → w.heap.size + 2 < r) : Ul w w1 x0 x1 n s :=
  ⟨(hg.block _ (heap_lt h.arg) (fun e => by have := hr _ e.symm; omega)).trans h.arg, (hg.block _ (heap_lt h.box) (fun e => by have := hr _ e.symm; omega)).trans h.box, h.um.kept hg (fun e => by have := hr _ e.symm; omega), h.low.grown hg h.low.size (fun k e => by have := hr _ e; omega)⟩
theorem grown_on {w w1 w2 : World} {row : Option Nat} (h : w.grownBy w1 row) (hb : Below w1.heap.size w1 w2) : w.grownBy w2 row :=
  ⟨hb.os.trans h.os, hb.tape.trans h.tape, hb.output.trans h.output, Nat.le_trans h.size hb.size, fun k hk hne => (hb.block k (Nat.lt_of_lt_of_le hk h.size)).trans (h.block k hk hne)⟩
theorem grown_same {w w1 w2 : World} {row : Option Nat} (h : w.grownBy w1 row) (k : w1.grownBy w2 row) : w.grownBy w2 row :=
  ⟨k.os.trans h.os, k.tape.trans h.tape, k.output.trans h.output, Nat.le_trans h.size k.size, fun i hi hne => (k.block i (Nat.lt_of_lt_of_le hi h.size) hne).trans (h.block i hi hne)⟩
/-- A round keeps what it must, where the map alone and new memory turn. -/
theorem keeps_round {W wi : World} {p Bs B : Nat} (hg : W.grownBy wi (some (p + 1))) (hB : p + 1 < B) (hs : Bs < W.heap.size) (hp : p + 1 < Bs) : KeepsFrom B W wi ∧ KpG p Bs W wi :=
  ⟨⟨hg.size, fun k o hk hko _ => (hg.block k (Array.getElem?_eq_some_iff.1 hko).1 (fun e => by injection e with e; omega)).trans hko⟩,
    ⟨hg.os, hg.tape, hg.output, hg.size, fun k hk => hg.block k (by omega) (fun e => by injection e with e; omega)⟩, hg.block Bs hs (fun e => by injection e with e; omega)⟩
theorem ints_store {w w1 : World} {A : Option Addr} {zs : List Int} {mb : Nat} (h : Ints w A zs) (hg : w.grownBy w1 (some mb)) (hn : ∀ b o, A = some ⟨b, o, none⟩ → b ≠ mb) : Ints w1 A zs := fun h0 => by
  obtain ⟨b, o, e, hl, hc⟩ := h h0
  exact ⟨b, o, e, Nat.lt_of_lt_of_le hl hg.size, fun j hj => (World.cell?_of_block (hg.block b hl (fun e1 => hn b o e (by injection e1)))).trans (hc j hj)⟩
set_option maxRecDepth 100000 in
set_option maxHeartbeats 4000000 in
theorem impl_usesOfLive (A0 : Option Addr) (n0 c0 : Nat) (z0 : List Int) (A1 : Option Addr) (n1 c1 : Nat) (z1 : List Int) (w : World) (h0 : Ints w A0 z0) (l0 : z0.length = n0 * 3) (h1 : Ints w A1 z1) (l1 : z1.length = n1) (m1 : n1 ≤ 2000000) (hc : cirOk z0 n0 z1) :
    Calls Try.prog 105 #[.agg #[.slice A0 n0 c0, .slice A1 n1 c1]] w fun e w' => ∃ (mb : Nat) (c : Nat → Int), e = .returned (.map (some mb)) ∧ w.heap.size ≤ mb ∧ Um mb n0 w' (fl (lv z0 n0 z1)) c ∧ Below w.heap.size w w' := by
  have n6 : n0 ≤ 6000 := hc.1
  have i0 := h0.bound
  have i1 := h1.bound
  have L0 := Lib.hid l0
  have L1 := Lib.hid l1
  have HC := Lib.hid hc
  clear h0 h1 l0 l1 hc
  have hmm := run_make_hint (n0 : Int)
  refine (callsIn_wide (n := 7)).1 ?_
  have hro : Fence.wide.round = none := rfl
  refine callsIn_of_wp_marks Try.func105 rfl trivial ?_ hro
  simp only [Try.ntmps105, List.size_toArray, List.length_cons, List.length_nil, Nat.reduceAdd, Nat.reduceSub, Array.replicate_succ, Array.replicate_zero, List.push_toArray, List.append_toArray, List.nil_append, List.cons_append]
  gi_wp2
  have U0 : Ul w (((w.alloc (.cells #[.slice A0 n0 c0, .slice A1 n1 c1] 31)).alloc (.map #[] 0)).alloc (.cells #[.map (some (w.heap.size + 1))] 99)) (.slice A0 n0 c0) (.slice A1 n1 c1) n0 us0 := by
    have h1 := heap_alloc_new w (.cells #[.slice A0 n0 c0, .slice A1 n1 c1] 31)
    have h2 := Um.made (w.alloc (.cells #[.slice A0 n0 c0, .slice A1 n1 c1] 31)) n0
    have h3 := heap_alloc_new ((w.alloc (.cells #[.slice A0 n0 c0, .slice A1 n1 c1] 31)).alloc (.map #[] 0)) (.cells #[.map (some (w.heap.size + 1))] 99)
    simp only [World.size_alloc] at h2 h3
    exact ⟨heap_alloc (heap_alloc h1 _) _, h3, h2.alloc _, (((Below.refl _ w).alloc (Nat.le_refl _) _).alloc (by simp) _).alloc (by simp; omega) _⟩
  generalize ((w.alloc (.cells #[.slice A0 n0 c0, .slice A1 n1 c1] 31)).alloc (.map #[] 0)).alloc (.cells #[.map (some (w.heap.size + 1))] 99) = w0 at *
  have S0 := Lib.hid U0
  clear hmm U0
  gi_loopw [21] (fun i wr => ∃ k : Nat, k ≤ n0 ∧ i = .int .i64 k ∧ Ul w wr (.slice A0 n0 c0) (.slice A1 n1 c1) n0 (usG z0 k)) (fun i _ => n0 - (intOf i).toNat)
  case atStart => exact ⟨0, Nat.zero_le _, rfl, S0.out⟩
  case round =>
    obtain ⟨k, hk, rfl, hU⟩ := hrel
    clear S0
    by_cases hlt : k < n0
    · have kk0 : (0 : Int) ≤ k := by omega
      have kk1 : (k : Int) < n0 := by omega
      obtain ⟨g, o, rfl, hgl, q0⟩ := (i0.below hU.low).at_ (j := k * 3) (by rw [L0.out]; omega)
      obtain ⟨_, _, e1, _, q1⟩ := (i0.below hU.low).at_ (j := k * 3 + 1) (by rw [L0.out]; omega)
      injection e1 with e1; injection e1 with e11 e12; subst e11 e12
      rw [← Nat.add_assoc] at q1
      obtain ⟨_, _, e1, _, q2⟩ := (i0.below hU.low).at_ (j := k * 3 + 2) (by rw [L0.out]; omega)
      injection e1 with e1; injection e1 with e11 e12; subst e11 e12
      rw [← Nat.add_assoc] at q2
      have HO := Lib.hid (fun x (hx : x ∈ opsG z0 k) => opsG_lt HC.out.2.1 hlt hx)
      have HS : Hid (usG z0 (k + 1) = addL 1 (usG z0 k) (opsG z0 k)) := Lib.hid rfl
      have HL := opsG_length z0 k
      have HI := Lib.hid (usG_in z0 k)
      have cO := fun W => callsIn_wide (n := 6).2 (impl_operandsOf (gk z0 k) (ga z0 k) (gb z0 k) W)
      rw [show opsL (gk z0 k) (ga z0 k) (gb z0 k) = opsG z0 k from rfl] at cO
      have hA := hU.alloc (.cells #[.int .i64 (gk z0 k), .int .i64 (ga z0 k), .int .i64 (gb z0 k)] 45)
      have hb := heap_alloc_new wr (.cells #[.int .i64 (gk z0 k), .int .i64 (ga z0 k), .int .i64 (gb z0 k)] 45)
      generalize opsG z0 k = ops at *
      generalize usG z0 k = s0 at *
      unfold gk ga gb at *
      generalize z0.getD (k * 3) 0 = x at *
      generalize z0.getD (k * 3 + 1) 0 = y at *
      generalize z0.getD (k * 3 + 2) 0 = z at *
      gi_wp2
      refine ⟨trivial, (cO _).mono ?_⟩
      rintro e w2 ⟨A2, m2, c2, rfl, o2, hb2⟩
      have hB := hA.below hb2
      have hlen := o2.len1
      have hi2 := o2.ints
      have hne : ∀ b o, A2 = some ⟨b, o, none⟩ → b ≠ w.heap.size + 1 := fun b o e => by
        have h1 := (o2.lt (B := b) (by rw [e]; rfl)).1
        have h2 := hA.size
        omega
      clear hA hU hb cO hb2 o2 q0 q1 q2 hgl
      have S1 := Lib.hid (And.intro hB hi2)
      clear hB hi2
      gi_wp2
      gi_loopw [28] (fun i wi => ∃ j : Nat, j ≤ m2 ∧ i = .int .i64 j ∧ Ul w wi (.slice (some ⟨g, o, none⟩) n0 c0) (.slice A1 n1 c1) n0 (addL 1 s0 (ops.take j)) ∧ Ints wi A2 ops) (fun i _ => m2 - (intOf i).toNat)
      case atStart => exact ⟨0, Nat.zero_le _, rfl, S1.out.1, S1.out.2⟩
      case round =>
        obtain ⟨j, hj, rfl, hV, hi⟩ := hrel
        clear S1
        by_cases hjt : j < m2
        · have jj0 : (0 : Int) ≤ j := by omega
          have jj1 : (j : Int) < m2 := by omega
          obtain ⟨b2, o2, rfl, -, q3⟩ := hi.at_ (j := j) (by omega)
          have hx := HO.out _ (gD_mem (d := 0) (show j < ops.length by omega))
          have HT := Lib.hid (addL_take 1 s0 (show j < ops.length by omega))
          have HR := HI.out.take (d := 1) (by omega) ops j
          generalize ops.getD j 0 = u at *
          obtain ⟨u, rfl⟩ : ∃ t : Nat, u = t := Int.eq_ofNat_of_zero_le hx.1
          rw [Int.toNat_natCast] at HT
          have hu : u < n0 := by omega
          have rd := hV.um.read hu (by omega)
          have bx := (blk (i := 0) hV.box rfl).1
          have r1 := HR u
          have hne' := hne b2 o2 rfl
          generalize addL 1 s0 (ops.take j) = sj at *
          have X1 : -(2 * (k : Int)) - 2 ≤ sj.2 u ∧ sj.2 u ≤ 2 * (k : Int) + 2 := by omega
          clear HR r1 hx
          obtain ⟨x1, x2⟩ := X1
          generalize hX : sj.2 u = X at *
          obtain ⟨w3, hr, hu3, hg3, -⟩ := hV.um.write hu (by omega) (X + 1) (WalkArith.wf_i64 (by omega))
          have S3 := Lib.hid (And.intro (hV.move (s' := addL 1 s0 (ops.take (j + 1))) hg3 (by rw [HT.out]; exact hu3)) (ints_store hi hg3 hne))
          clear hV hi hu3 hg3 HT
          gi_wp2
          go_roundw
          case rel => exact ⟨j + 1, by omega, by go_num, S3.out.1, S3.out.2⟩
          case measure => simp [intOf]; omega
        · obtain rfl : j = m2 := by omega
          have S3 := Lib.hid (show Ul w wr (.slice (some ⟨g, o, none⟩) n0 c0) (.slice A1 n1 c1) n0 (usG z0 (k + 1)) by rw [HS.out]; have := hV; rwa [← hlen, addL_all] at this)
          clear hV hi
          gi_wp2
          go_roundw
          case rel => exact ⟨k + 1, by omega, by go_num, S3.out⟩
          case measure => simp [intOf]; omega
    · obtain rfl : k = n0 := by omega
      have bx := (blk (i := 1) hU.arg rfl).1
      have S4 := Lib.hid hU
      clear hU
      gi_wp2
      gi_loopw [41] (fun i wr => ∃ j : Nat, j ≤ n1 ∧ i = .int .i64 j ∧ Ul w wr (.slice A0 k c0) (.slice A1 n1 c1) k (addL 1 (usG z0 k) (z1.take j))) (fun i _ => n1 - (intOf i).toNat)
      case atStart => exact ⟨0, Nat.zero_le _, rfl, S4.out⟩
      case round =>
        obtain ⟨j, hj, rfl, hV⟩ := hrel
        clear S4
        by_cases hjt : j < n1
        · have jj0 : (0 : Int) ≤ j := by omega
          have jj1 : (j : Int) < n1 := by omega
          obtain ⟨b2, o2, rfl, -, q3⟩ := (i1.below hV.low).at_ (j := j) (by rw [L1.out]; exact hjt)
          have hjl : j < z1.length := by rw [L1.out]; exact hjt
          have hx := HC.out.2.2 _ (gD_mem (d := 0) hjl)
          have HT := Lib.hid (addL_take 1 (usG z0 k) hjl)
          have HR := (usG_in z0 k).take (d := 1) (by omega) z1 j
          have hlen := L1.out
          generalize z1.getD j 0 = u at *
          obtain ⟨u, rfl⟩ : ∃ t : Nat, u = t := Int.eq_ofNat_of_zero_le hx.1
          rw [Int.toNat_natCast] at HT
          have hu : u < k := by omega
          have rd := hV.um.read hu (by omega)
          have bx := (blk (i := 0) hV.box rfl).1
          have r1 := HR u
          generalize addL 1 (usG z0 k) (z1.take j) = sj at *
          have X1 : -(2 * (k : Int)) - 2000000 ≤ sj.2 u ∧ sj.2 u ≤ 2 * (k : Int) + 2000000 := by omega
          clear HR r1 hx hlen hjl
          obtain ⟨x1, x2⟩ := X1
          generalize hX : sj.2 u = X at *
          obtain ⟨w3, hr, hu3, hg3, -⟩ := hV.um.write hu (by omega) (X + 1) (WalkArith.wf_i64 (by omega))
          have S3 := Lib.hid (hV.move (s' := addL 1 (usG z0 k) (z1.take (j + 1))) hg3 (by rw [HT.out]; exact hu3))
          clear hV hu3 hg3 HT hX
          gi_wp2
          go_roundw
          case rel => exact ⟨j + 1, by omega, by go_num, S3.out⟩
          case measure => simp [intOf]; omega
        · obtain rfl : j = n1 := by omega
          have S5 := Lib.hid (show Ul w wr (.slice A0 k c0) (.slice A1 j c1) k (usO z0 k z1) by have := hV; rw [← L1.out, addL_all] at this; rw [← L1.out]; exact this)
          have bx := (blk (i := 0) hV.arg rfl).1
          clear hV
          gi_wp2_with (refine ⟨trivial, ?_⟩; gi_at_call 148; refine (backG_in Fence.wide _ trivial hro _ _ _ _).mono ?_; rintro e w' ⟨rfl, rfl⟩)
          have hU0 := S5.out.alloc (.cells #[.slice A0 k c0] 29)
          have t4 := (blk (i := 0) (heap_alloc_new wr (.cells #[.slice A0 k c0] 29)) rfl).1
          have hBs0 : wr.heap.size < (wr.alloc (.cells #[.slice A0 k c0] 29)).heap.size := by simp
          have hBs1 := S5.out.size
          generalize wr.heap.size = Bs at *
          generalize wr.alloc (.cells #[.slice A0 k c0] 29) = W0 at *
          have hE := i0.below hU0.low
          refine wpIn_rangeFunc_ownH hro (by omega) (gf := 160) (lb := #[.pointer (some ⟨Bs, 0, none⟩)]) rfl trivial (enters_of Try.func160 (by kernel_rfl) rfl)
            (backG_stops Fence.wide _ trivial hro (by omega) Bs w.heap.size k c0 A0 z0 L0.out (by omega) W0 hBs0 hU0.low.size t4 hE) KpG.trans (KpG.put (by omega) hBs0) (Below.refl _ _) (fun _ => rfl)
            (fun (pre : List (GtI k)) W => Ul w W (.slice A0 k c0) (.slice A1 j c1) k (walkS z0 (usO z0 k z1) (pre.map (fun a : GtI k => a.1))) ∧ Bs < W.heap.size)
            (fun _ _ _ => False)
            (fun s X Y row hs hg hr => ⟨hs.1.from_ hg (fun r e => by have := (hr r e).1; omega), Nat.lt_of_lt_of_le hs.2 hg.size⟩)
            (fun _ _ _ _ _ hs _ _ => hs)
            ⟨hU0, hBs0⟩
            (fun (a : GtI k) a' W => ∃ Bx, Bs < Bx ∧ W.heap[Bx]? = some (.cells #[.int .i64 (gk z0 a.1), .int .i64 (ga z0 a.1), .int .i64 (gb z0 a.1)] 45 (0, 0)) ∧ a' = { tmps := #[Value.agg #[Value.slice A0 k c0, Value.slice A1 j c1], Value.pointer (some ⟨w.heap.size, 0, none⟩), Value.map none, Value.pointer (some ⟨w.heap.size + 1 + 1, 0, none⟩), undef, u5, undef, u7, undef, u9, Value.int .i64 (a.1 : Int), Value.pointer (some ⟨Bx, 0, none⟩), undef, undef, Value.pointer (some ⟨w.heap.size, 0, none⟩), Value.slice A0 k c0, Value.int .i64 k, Value.map (some (w.heap.size + 1)), Value.pointer (some ⟨w.heap.size, 0, none⟩), Value.slice A0 k c0, Value.int .i64 k, Value.int .i64 k, Value.bool false, u23, u24, u25, u26, u27, u28, u29, u30, u31, u32, u33, u34, u35, u36, u37, Value.pointer (some ⟨w.heap.size, 1, none⟩), Value.slice A1 j c1, Value.int .i64 j, Value.int .i64 j, Value.bool false, u43, u44, u45, u46, u47, u48, u49, Value.pointer (some ⟨w.heap.size, 0, none⟩), Value.slice A0 k c0, Value.func (.func 160) #[] #[Value.pointer (some ⟨Bs, 0, none⟩)], Value.int .i64 (a.1 : Int), Value.agg #[.int .i64 (gk z0 a.1), .int .i64 (ga z0 a.1), .int .i64 (gb z0 a.1)], undef, undef, undef, undef, undef, undef, undef, undef, undef, undef, undef, undef, undef, undef, undef, undef, undef, undef, undef], defers := [] })
            (fun a a' _ X Y row hs hg hr => by
              obtain ⟨Bx, h1, h2, h3⟩ := hs
              refine ⟨Bx, h1, (hg.block Bx (heap_lt h2) (fun e => ?_)).trans h2, h3⟩
              obtain ⟨_, o, ho, hc⟩ := hr Bx e.symm
              rw [h2] at ho
              cases ho
              cases hc)
            ?assign ?body ?done ?stop
          case assign =>
            rintro l pre a W K ⟨hU, hB⟩ hK
            unfold encG
            gi_wp2
            exact hK _ _ ((KeepsOthers.alloc _ _).from _) ⟨(Below.refl _ W).alloc hU.low.size _, Below.heap_alloc W _ _ hB⟩ ⟨hU.alloc _, by simp; omega⟩ ⟨W.heap.size, hB, heap_alloc_new _ _, rfl⟩
          case body =>
            rintro l pre ⟨t, ht⟩ a' W hl ⟨r, hr⟩ ⟨hU, hB⟩ ⟨Bx, hBx, hX, rfl⟩ hlt
            have hsn : Hid (walkS z0 (usO z0 k z1) ((pre ++ [(⟨t, ht⟩ : GtI k)]).map (fun a : GtI k => a.1)) = stepS z0 (walkS z0 (usO z0 k z1) (pre.map (fun a : GtI k => a.1))) t) := Lib.hid (by rw [List.map_append, List.map_singleton, walkS_snoc])
            have hIn := walkS_in (z := z0) (pre.map (fun a : GtI k => a.1)) (usO_in z0 z1 k) (by omega)
            rw [List.length_map] at hIn
            generalize walkS z0 (usO z0 k z1) (pre.map (fun a : GtI k => a.1)) = s at *
            have rd := hU.um.read ht (by omega)
            have bx := (blk (i := 0) hU.box rfl).1
            have hL1 := L1.out
            have HO := Lib.hid (fun x (hx : x ∈ opsG z0 t) => opsG_lt HC.out.2.1 ht hx)
            have HL := opsG_length z0 t
            have HI := Lib.hid (hIn.mono (M' := 3000000) (by omega))
            clear hIn hlt hr
            by_cases hX0 : 0 < s.2 t
            · have hst := Lib.hid (hsn.out.trans (if_pos hX0))
              have U := Lib.hid hU
              generalize s.2 t = X at *
              clear hU hsn HO HL HI hX
              gi_wp2
              exact ⟨KeepsFrom.refl _ _, KpG.refl _ _ _, by rw [hst.out]; exact U.out, hB⟩
            · have hst := Lib.hid (hsn.out.trans (if_neg hX0))
              have U := Lib.hid hU
              have g0 := (blk (i := 0) (u := .int .i64 (gk z0 t)) hX rfl).1
              have g1 := (blk (i := 1) (u := .int .i64 (ga z0 t)) hX rfl).1
              have g2 := (blk (i := 2) (u := .int .i64 (gb z0 t)) hX rfl).1
              have hxl := heap_lt hX
              have hxn : some Bx ≠ some (w.heap.size + 1) := fun e => by injection e with e; omega
              have cO := fun W => callsIn_wide (n := 4).2 (impl_operandsOf (gk z0 t) (ga z0 t) (gb z0 t) W)
              rw [show opsL (gk z0 t) (ga z0 t) (gb z0 t) = opsG z0 t from rfl] at cO
              generalize opsG z0 t = ops at *
              generalize gk z0 t = x at *
              generalize ga z0 t = y at *
              generalize gb z0 t = z at *
              generalize s.2 t = X at rd hX0
              clear hU hsn
              gi_wp2_with (gi_at_delete; refine wpListIn_um_del _ rfl _ _ rfl U.out.um t ht (by omega) rfl rfl ?_; intro w3 hu3 hg3 hs3; (have q0 : w3.cell? ⟨Bx, 0, none⟩ = some (.int .i64 x) := (World.cell?_of_block (hg3.block Bx hxl hxn)).trans g0); (have q1 : w3.cell? ⟨Bx, 1, none⟩ = some (.int .i64 y) := (World.cell?_of_block (hg3.block Bx hxl hxn)).trans g1); (have q2 : w3.cell? ⟨Bx, 2, none⟩ = some (.int .i64 z) := (World.cell?_of_block (hg3.block Bx hxl hxn)).trans g2))
              refine ⟨trivial, (CallsIn.inRound l (cO _)).mono ?_⟩
              rintro e w4 ⟨A2, m2, c2, rfl, o2, hb2⟩
              have hB4 := (U.out.move (s' := delS s t) hg3 hu3).below hb2
              have hi2 := o2.ints
              have hg4 := grown_on hg3 hb2
              have hlen := o2.len1
              have hne : ∀ b o, A2 = some ⟨b, o, none⟩ → b ≠ w.heap.size + 1 := fun b o e => by
                have h1 := (o2.lt (B := b) (by rw [e]; rfl)).1
                have h2 := U.out.size
                omega
              have S1 := Lib.hid (And.intro hB4 (And.intro hi2 hg4))
              have HI2 := Lib.hid (HI.out.del (by omega) t)
              clear hB4 hi2 hg4 o2 hb2 hu3 hg3 hs3 q0 q1 q2 g0 g1 g2 cO bx rd hX0 HI
              gi_wp2
              gi_loopw [64] (fun i wi => ∃ jj : Nat, jj ≤ m2 ∧ i = .int .i64 jj ∧ Ul w wi (.slice A0 k c0) (.slice A1 j c1) k (addL (-1) (delS s t) (ops.take jj)) ∧ Ints wi A2 ops ∧ W.grownBy wi (some (w.heap.size + 1))) (fun i _ => m2 - (intOf i).toNat)
              case atStart => exact ⟨0, Nat.zero_le _, rfl, S1.out.1, S1.out.2.1, S1.out.2.2⟩
              case round =>
                obtain ⟨jj, hjj, rfl, hV, hi, hgw⟩ := hrel
                clear S1
                by_cases hjt : jj < m2
                · have jj0 : (0 : Int) ≤ jj := by omega
                  have jj1 : (jj : Int) < m2 := by omega
                  obtain ⟨b2, o2, rfl, -, q3⟩ := hi.at_ (j := jj) (by omega)
                  have hx := HO.out _ (gD_mem (d := 0) (show jj < ops.length by omega))
                  have HT := Lib.hid (addL_take (-1) (delS s t) (show jj < ops.length by omega))
                  have HR := HI2.out.take (d := -1) (by omega) ops jj
                  generalize ops.getD jj 0 = u at *
                  obtain ⟨u, rfl⟩ : ∃ t : Nat, u = t := Int.eq_ofNat_of_zero_le hx.1
                  rw [Int.toNat_natCast] at HT
                  have hu : u < k := by omega
                  have rd := hV.um.read hu (by omega)
                  have bx := (blk (i := 0) hV.box rfl).1
                  have r1 := HR u
                  have hne' := hne b2 o2 rfl
                  generalize addL (-1) (delS s t) (ops.take jj) = sj at *
                  have X1 : -(4000000 : Int) ≤ sj.2 u ∧ sj.2 u ≤ 4000000 := by omega
                  clear HR r1 hx
                  obtain ⟨x1, x2⟩ := X1
                  generalize hX : sj.2 u = Xj at *
                  obtain ⟨w5, hr, hu5, hg5, -⟩ := hV.um.write hu (by omega) (Xj - 1) (WalkArith.wf_i64 (by omega))
                  have S3 := Lib.hid (And.intro (hV.move (s' := addL (-1) (delS s t) (ops.take (jj + 1))) hg5 (by rw [HT.out]; exact hu5)) (And.intro (ints_store hi hg5 hne) (grown_same hgw hg5)))
                  clear hV hi hu5 hg5 HT hX hgw
                  gi_wp2
                  go_roundw
                  case rel => exact ⟨jj + 1, by omega, by go_num, S3.out.1, S3.out.2.1, S3.out.2.2⟩
                  case measure => simp [intOf]; omega
                · obtain rfl : jj = m2 := by omega
                  have S3 := Lib.hid (show Ul w wr (.slice A0 k c0) (.slice A1 j c1) k (walkS z0 (usO z0 k z1) ((pre ++ [(⟨t, ht⟩ : GtI k)]).map (fun a : GtI k => a.1))) by rw [hst.out]; have := hV; rwa [← hlen, addL_all] at this)
                  have KR := Lib.hid (keeps_round (Bs := Bs) (B := W0.heap.size) hgw (by omega) hB (by omega))
                  have hz := hgw.size
                  clear hV hi hgw
                  gi_wp2
                  exact ⟨KR.out.1, KR.out.2, S3.out, by omega⟩
          case done =>
            rintro D ys W hD hys ⟨hU, hB⟩ hK
            have bx := (blk (i := 0) hU.box rfl).1
            have hfin := hU.um.congr (f' := fl (lv z0 k z1)) (c' := (walkS z0 (usO z0 k z1) (ys.map (fun a : GtI k => a.1))).2) (fun i hi => ⟨by rw [hys]; exact walk_end HC.out i hi, rfl⟩)
            have hlow := hU.low
            clear hU
            gi_wp2
            refine ⟨by simp, .inl ⟨_, _, rfl, run_takeDeferred hK, ?_⟩⟩
            exact ⟨_, results_tmp rfl _ _ _, w.heap.size + 1, _, rfl, by omega, hfin.kept (grownBy_putObj' _ D (.deferred none)) (fun e => by injection e with e; omega), hlow.trans (belowK_b (w := w) (Nat.le_refl _) _ D _ _ (by omega) hK rfl rfl)⟩
          case stop =>
            rintro D q pre W _ _ h _
            exact h.elim
end Go.Proofs.Ytegdlegndgdgiaa
