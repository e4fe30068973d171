/- FlowStep: the program's, at a valid statement and eight registers. No condition. -/
import Derived.Test.YtklmhkckhdmelaaProg
import Derived.Test.YtklmhkckhdmelaaFlowI
import Derived.Test.YtklmhkckhdmelaaPgB
import Derived.Laws.CopyOwn
namespace Go.Proofs.Ytklmhkckhdmelaa
open Go Go.RowKit
theorem ty_what {op d a b c n : Int} {t : Ty} (h : tyOf op d a b c n = some t) : (op = 2 ∧ t = .inp d a n) ∨ (op = 11 ∧ t = .out a) ∨ (op ≠ 2 ∧ op ≠ 11 ∧ (∀ x y z, t ≠ .inp x y z) ∧ ∀ x, t ≠ .out x) := by
  rcases @tyOf_cases op d a b c n with ⟨h1, e⟩ | ⟨h1, e⟩ | ⟨h1, e⟩ | ⟨h1, e⟩ | ⟨h1, e⟩ | ⟨h1, e⟩ | ⟨h1, e⟩ | ⟨h1, e⟩ <;> rw [e] at h <;> cases h
  · exact .inr (.inr ⟨by omega, by omega, (fun _ _ _ e => by cases e), (fun _ e => by cases e)⟩)
  · exact .inl ⟨h1, rfl⟩
  · exact .inr (.inr ⟨by omega, by omega, (fun _ _ _ e => by cases e), (fun _ e => by cases e)⟩)
  · exact .inr (.inr ⟨by omega, by omega, (fun _ _ _ e => by cases e), (fun _ e => by cases e)⟩)
  · exact .inr (.inl ⟨h1, rfl⟩)
  · exact .inr (.inr ⟨by omega, by omega, (fun _ _ _ e => by cases e), (fun _ e => by cases e)⟩)
  · exact .inr (.inr ⟨by omega, by omega, (fun _ _ _ e => by cases e), (fun _ e => by cases e)⟩)
theorem cells8_set (l : List Int) (k : Nat) (x : Int) : (cells8 l).setIfInBounds k (.int .i64 x) = cells8 (l.set k x) := by
  apply Array.ext'
  simp [cells8, intVals, List.map_set]
theorem own8 {w : World} {g lo : Nat} {T : TypeId} {rs : List Int} (h : w.heap[g]? = some (.cells (cells8 rs) T (0, 0))) (hl : rs.length = 8) (hlo : lo ≤ g) : OwnA 1 lo (g + 1) w (.slice (some ⟨g, 0, none⟩) 8 8) 8 rs := by
  refine ⟨⟨T, by rw [intVals_length, hl], .inr ⟨g, 8, cells8 rs, rfl, hlo, h, Nat.le_refl _, by unfold maxLen; omega, by simp [cells8, intVals, hl], ?_⟩⟩, fun k e => ?_⟩
  · rw [List.take_of_length_le (by simp [cells8, intVals, hl])]
    simp [cells8]
  · have : g = k := by simpa [Value.ownBlock] using e
    omega
theorem splice_all {L cs : List Value} (h : L.length = cs.length) : splice L 0 cs = cs := by
  unfold splice
  rw [List.take_zero, List.nil_append, Nat.zero_add, ← h, List.drop_length, List.append_nil]
theorem src_row {w : World} {A0 : Option Addr} {rs : List Int} (hz : Ints w A0 rs) (h0 : 0 < rs.length) : ∃ ad, A0 = some ad ∧ ∀ j v, (intVals rs)[j]? = some v → w.cell? (ad.add j) = some v := by
  obtain ⟨b, o, hA, _, hc⟩ := hz h0
  refine ⟨⟨b, o, none⟩, hA, fun j u hu => ?_⟩
  have hj : j < rs.length := by
    rcases Nat.lt_or_ge j rs.length with h | h
    · exact h
    · rw [List.getElem?_eq_none (by rw [intVals_length]; exact h)] at hu; cases hu
  have hadd : (⟨b, o, none⟩ : Addr).add j = ⟨b, o + j, none⟩ := by
    rcases Nat.eq_zero_or_pos j with h | h
    · subst h; simp [Addr.add]
    · simp [Addr.add, Nat.ne_of_gt h]
  rw [hadd, hc j hj, ← hu]
  simp [intVals, List.getD_eq_getElem?_getD, List.getElem?_eq_getElem hj]
set_option maxRecDepth 100000 in
set_option maxHeartbeats 1000000 in
theorem impl_FlowStep_yes (A0 A1 : Option Addr) (c0 c1 n1 : Nat) (rs os : List Int) (op d a b c n : Int) (w : World) (h0 : Ints w A0 rs) (l0 : rs.length = 8) (h1 : Ints w A1 os) (l1 : os.length = n1) (m1 : n1 ≤ 1999999) (hok : okI op d a b c n) :
    Calls Try.prog 23 #[.agg #[.slice A0 8 c0, .slice A1 n1 c1], .agg #[.int .i64 op, .int .i64 d, .int .i64 a, .int .i64 b, .int .i64 c, .int .i64 n]] w (Post_Flow (flowR rs op d a b c n) (flowO rs os op d a b c n) w) := by
  have k0 := Bx3F.start w #[.slice A0 8 c0, .slice A1 n1 c1] #[.int .i64 op, .int .i64 d, .int .i64 a, .int .i64 b, .int .i64 c, .int .i64 n] #[.slice none 0 0, .slice none 0 0]
  have cN := impl_newStatement op d a b c n
  rcases newV_cases op d a b c n with ⟨hno, -⟩ | ⟨t, -, e, hreads, hop, hset, hnot, hcase, hty⟩
  · exact absurd hok hno
  rw [e] at cN
  simp only [usedV] at cN
  have L0 := Lib.hid l0
  have L1 := Lib.hid l1
  have i0 := h0.bound
  have i1 := h1.bound
  have Hty := Lib.hid (ty_what hty)
  have Hreads := Lib.hid hreads
  have Hset := Lib.hid hset
  have Hnot := Lib.hid hnot
  clear l0 l1 h0 h1 e hop hcase hty hreads hset hnot
  go_enter Try.func23, Try.ntmps23
  go_wp2_with fail
  generalize hw0 : ((w.alloc (.cells #[.slice A0 8 c0, .slice A1 n1 c1] 32)).alloc (.cells #[.int .i64 op, .int .i64 d, .int .i64 a, .int .i64 b, .int .i64 c, .int .i64 n] 43)).alloc (.cells #[.slice none 0 0, .slice none 0 0] 32) = w0 at *
  clear hw0
  refine (impl_CloneI A1 n1 c1 os w0 ((i1.below k0.low).ints k0.low.size) L1.out (by omega)).mono ?_
  rintro e w1 ⟨B1, q1, d1, rfl, e1, o1, hb1⟩
  obtain rfl : q1 = n1 := by rw [← e1, L1.out]
  have s1 := k0.lt
  have t1 := hb1.size
  replace k0 := k0.next hb1
  clear hb1 e1
  obtain ⟨x0, -⟩ := blk (i := 0) k0.s rfl
  obtain ⟨x1, -⟩ := blk (i := 1) k0.s rfl
  obtain ⟨x2, -⟩ := blk (i := 2) k0.s rfl
  obtain ⟨x3, -⟩ := blk (i := 3) k0.s rfl
  obtain ⟨x4, -⟩ := blk (i := 4) k0.s rfl
  obtain ⟨x5, -⟩ := blk (i := 5) k0.s rfl
  go_wp2_with fail
  refine (cN w1).mono ?_
  rintro e w2 ⟨rfl, hb2⟩
  have t2 := hb2.size
  replace k0 := k0.next hb2
  replace o1 := o1.below hb2
  clear hb2 x0 x1 x2 x3 x4 x5
  obtain ⟨x0, -⟩ := blk (i := 0) k0.f rfl
  go_wp2_with fail
  have b8 := heap_alloc_new w2 (.cells #[.int .i64 0, .int .i64 0, .int .i64 0, .int .i64 0, .int .i64 0, .int .i64 0, .int .i64 0, .int .i64 0] 76)
  have low8 := (Below.refl w2.heap.size w2).alloc (Nat.le_refl _) (.cells #[.int .i64 0, .int .i64 0, .int .i64 0, .int .i64 0, .int .i64 0, .int .i64 0, .int .i64 0, .int .i64 0] 76)
  have x8 := (low8.cell (p := ⟨w.heap.size, 0, none⟩) (World.block_lt_of_cell? _ _ x0)).trans x0
  generalize w2.alloc (.cells #[.int .i64 0, .int .i64 0, .int .i64 0, .int .i64 0, .int .i64 0, .int .i64 0, .int .i64 0, .int .i64 0] 76) = w8 at *
  have low8d : Below w2.heap.size w2 w8.drew := low8.drew
  have src : ∃ ad, A0 = some ad ∧ ∀ j v, (intVals rs)[j]? = some v → w8.drew.cell? (ad.add j) = some v := src_row (((i0.below k0.low).ints k0.low.size).below low8d) (by rw [L0.out]; omega)
  have Src := Lib.hid src
  have Hlen := Lib.hid (show (intVals rs).length = 8 by rw [intVals_length, L0.out])
  clear x0 src cN
  go_region_law (refine step_copy_splice rfl (.tmp 36) (.tmp 38) 26 26 rfl 3 Try.underlying26 (by kernel_rfl) (some ⟨w2.heap.size, 0, none⟩) A0 8 8 8 c0 rfl rfl w2.heap.size 0 [.int .i64 0, .int .i64 0, .int .i64 0, .int .i64 0, .int .i64 0, .int .i64 0, .int .i64 0, .int .i64 0] 76 b8 (intVals rs) Hlen.out (fun _ => ⟨rfl, Src.out⟩) (by rw [Hlen.out]; decide) (oneCell_i64 rs) w2.heap.size w2 low8d (Nat.le_refl _) ?_; intro w4 hg4 hb4)
  have hcells : w4.heap[w2.heap.size]? = some (.cells (cells8 rs) 76 (0, 0)) := by
    have h := hg4.out
    rw [splice_all (by rw [Hlen.out]; rfl)] at h
    exact h
  have K := Lib.hid (k0.next hb4)
  have O1 := Lib.hid (o1.below hb4)
  have s8 := heap_lt hcells
  clear hg4 hb4 k0 o1 b8 low8 low8d x8 Src i0 i1
  generalize w2.heap.size = g8 at *
  rcases Hty.out with ⟨rfl, rfl⟩ | ⟨rfl, rfl⟩ | ⟨h2, h11, hni, hno⟩
  · have hR : flowR rs 2 d a b c n = rs.set d.toNat (bitP a) := by unfold flowR; rw [if_pos ⟨hok, L0.out, by omega⟩, if_pos rfl]
    have hO : flowO rs os 2 d a b c n = os := by unfold flowO; rw [if_neg (by omega)]
    have hd : 0 ≤ d ∧ d < 8 ∧ 0 ≤ a ∧ a ≤ 4 := by unfold okI isReg at hok; omega
    obtain ⟨hd0, hd8, ha0, ha4⟩ := hd
    have HR := Lib.hid hR
    have HO := Lib.hid hO
    have as1 := as_inp (.inp d a n)
    simp only [Ty.v] at *
    clear hR hO hok Hty Hreads Hset Hnot
    go_wp2_with fail
    have b9 := heap_alloc_new w4 (.cells #[.int .i64 d, .int .i64 a, .int .i64 n] 78)
    have hb5 := below_alloc w4 (.cells #[.int .i64 d, .int .i64 a, .int .i64 n] 78)
    have hc5 := heap_below hcells hb5
    replace K := Lib.hid (K.out.next hb5)
    replace O1 := Lib.hid (O1.out.below hb5)
    generalize w4.alloc (.cells #[.int .i64 d, .int .i64 a, .int .i64 n] 78) = w5 at *
    have q0 := (blk (i := 0) b9 rfl).1
    have q1 := (blk (i := 1) b9 rfl).1
    have q8 := blk (i := d.toNat) hc5 (cells8_at (by rw [L0.out]; omega))
    obtain ⟨q8, f8⟩ := q8
    have hbit := Lib.hid (bit_shl (a := a) (by omega))
    have s9 := hb5.size
    have s2 : w.heap.size + 2 < g8 := by omega
    have K6 := (K.out.far s2 d.toNat (.int .i64 (bitP a))).drew
    have O6 := Lib.hid ((O1.out.setFar' (g := g8) (i := d.toNat) t2 (.int .i64 (bitP a))).drew)
    have C6 : (w5.setCell ⟨g8, d.toNat, none⟩ (.int .i64 (bitP a))).drew.heap[g8]? = some (.cells (cells8 (rs.set d.toNat (bitP a))) 76 (0, 0)) := by
      have h := heap_set (i := d.toNat) hc5 (.int .i64 (bitP a))
      rw [cells8_set] at h
      exact h
    clear hb5 hcells as1 K O1
    go_region
    rw [hbit.out]
    generalize (w5.setCell ⟨g8, d.toNat, none⟩ (.int .i64 (bitP a))).drew = w6 at *
    have s6 := heap_lt C6
    obtain ⟨yc0, yf0⟩ := blk (i := 0) K6.r rfl
    obtain ⟨yc1, yf1⟩ := blk (i := 1) K6.r rfl
    have oR := Lib.hid (own8 (lo := g8) C6 (by rw [List.length_set, L0.out]) (Nat.le_refl _))
    have K := Lib.hid K6
    clear K6 C6 hc5 b9 q0 q1 q8 f8
    go_wp2_with fail
    rw [HR.out, HO.out]
    exact flow_out (lo := w0.heap.size) K.out ⟨oR.out.wide (by omega) s6, O6.out.any.wide (Nat.le_refl _) (by omega), (O6.out.any.apart_of oR.out (by omega)).symm⟩ (by omega) (Nat.le_refl _) _ rfl
  · have hR : flowR rs 11 d a b c n = rs := by unfold flowR; rw [if_neg (by omega)]
    have hO : flowO rs os 11 d a b c n = os ++ [rs.getD a.toNat 0] := by unfold flowO; rw [if_pos ⟨hok, L0.out, rfl⟩]
    have hd : 0 ≤ a ∧ a < 8 := by unfold okI isReg at hok; omega
    obtain ⟨ha0, ha8⟩ := hd
    have HR := Lib.hid hR
    have HO := Lib.hid hO
    have as1 := as_inp (.out a)
    have as2 := as_out (.out a)
    simp only [Ty.v] at *
    clear hR hO hok Hty Hreads Hset Hnot
    go_upto_region 17 with (fail)
    have b9 := heap_alloc_new w4 (.cells #[.int .i64 a] 80)
    have hb5 := below_alloc w4 (.cells #[.int .i64 a] 80)
    have hc5 := heap_below hcells hb5
    replace K := Lib.hid (K.out.next hb5)
    replace O1 := Lib.hid (O1.out.below hb5)
    generalize w4.alloc (.cells #[.int .i64 a] 80) = w5 at *
    have q0 := (blk (i := 0) b9 rfl).1
    have q8 := (blk (i := a.toNat) hc5 (cells8_at (by rw [L0.out]; omega))).1
    have Hx : Hid (os ++ [rs.getD a.toNat 0] = os ++ [rs.getD a.toNat 0]) := Lib.hid rfl
    obtain ⟨x, hx⟩ : ∃ x, x = rs.getD a.toNat 0 := ⟨_, rfl⟩
    rw [← hx] at q8
    have hX := Lib.hid hx
    have s9 := hb5.size
    have K7 := K.out.next (below_alloc w5 (.cells #[.int .i64 x] 3))
    have O7 := O1.out.alloc (.cells #[.int .i64 x] 3)
    have C7 := heap_alloc hc5 (.cells #[.int .i64 x] 3)
    have s2 : w.heap.size + 2 < g8 := by omega
    have sB := O7.own.lt
    clear hb5 hcells as1 as2 K O1 Hx hx b9
    go_wp2_with (first | (at_builtin; refine app_list (e' := 3) elemInt rfl _ _ rfl w0.heap.size _ q1 (intVals os) rfl O7.own w5.heap.size 1 1 _ (0, 0) rfl (heap_alloc_new w5 _) rfl (oneCell_i64 [_]) (by omega) (by unfold maxLen; omega) (by omega) (by simp; omega) (w5.heap.size + 1) (by simp) ?_))
    intro g7 cap w7 ho7 hg7 hat7 hl7
    have ht7 := O7.top
    have K8 := K7.grown hg7 (fun k e => by have := sB k e; omega)
    have C8 := heap_grown C7 hg7 (fun e => by have := ht7 _ e; omega)
    have hne : g7 ≠ g8 := by
      rcases hat7 with e | e
      · have := ht7 _ e; omega
      · omega
    have oO := Lib.hid ((OwnA.of_own (zs := os ++ [x]) (by rw [show intVals (os ++ [x]) = intVals os ++ [Value.int .i64 x] by simp [intVals]]; exact ho7)) : OwnA 1 w0.heap.size w7.heap.size w7 (.slice (some ⟨g7, 0, none⟩) (q1 + 1) cap) (q1 + 1) (os ++ [x]))
    have oR := Lib.hid (own8 (lo := g8) C8 L0.out (Nat.le_refl _))
    have s7 := heap_lt C8
    obtain ⟨yc0, yf0⟩ := blk (i := 0) K8.r rfl
    obtain ⟨yc1, yf1⟩ := blk (i := 1) K8.r rfl
    have KK := Lib.hid K8
    have Hap : Hid (apart (.slice (some ⟨g8, 0, none⟩) 8 8) (.slice (some ⟨g7, 0, none⟩) (q1 + 1) cap)) := Lib.hid (fun k e e' => by
      have h1 : g8 = k := by simpa [Value.ownBlock] using e
      have h2 : g7 = k := by simpa [Value.ownBlock] using e'
      omega)
    clear ho7 hg7 hat7 ht7 sB O7 K7 C7 C8 K8 q0 q8
    go_wp2_with fail
    rw [HR.out, HO.out, ← hX.out]
    exact flow_out (lo := w0.heap.size) KK.out ⟨oR.out.wide (by omega) s7, oO.out, Hap.out⟩ (by omega) (Nat.le_refl _) _ rfl
  · have hO : flowO rs os op d a b c n = os := by unfold flowO; rw [if_neg (by omega)]
    have HO := Lib.hid hO
    have as1 : ∀ w : World, (Instr.typeAssert t.v 72 78 true).run Try.prog w = .ok (.tuple #[.agg #[.int .i64 0, .int .i64 0, .int .i64 0], .bool false]) w := fun w => by
      rw [as_inp]
      cases t <;> first | rfl | exact absurd rfl (hni _ _ _)
    have as2 : ∀ w : World, (Instr.typeAssert t.v 72 80 true).run Try.prog w = .ok (.tuple #[.agg #[.int .i64 0], .bool false]) w := fun w => by
      rw [as_out]
      cases t <;> first | rfl | exact absurd rfl (hno _)
    have cS := impl_setRegister t
    have s2 : w.heap.size + 2 < g8 := by omega
    clear hO hni hno Hty
    rcases hts : t.sets with _ | _
    · have h10 := Hnot.out hts
      have hR : flowR rs op d a b c n = rs := by unfold flowR; rw [if_neg (by omega)]
      have HR := Lib.hid hR
      rw [hts] at cS
      clear hR h10 Hset Hnot Hreads hok h2 h11 hts
      go_wp2_with fail
      refine (cS w4).mono ?_
      rintro e w5 ⟨rfl, hb5⟩
      have C5 := heap_below hcells hb5
      have K5 := K.out.next hb5
      replace O1 := Lib.hid (O1.out.below hb5)
      have oR := Lib.hid (own8 (lo := g8) C5 L0.out (Nat.le_refl _))
      have s5 := heap_lt C5
      obtain ⟨yc0, yf0⟩ := blk (i := 0) K5.r rfl
      obtain ⟨yc1, yf1⟩ := blk (i := 1) K5.r rfl
      replace K := Lib.hid K5
      clear hb5 hcells C5 K5 cS
      go_wp2_with fail
      rw [HR.out, HO.out]
      exact flow_out (lo := w0.heap.size) K.out ⟨oR.out.wide (by omega) s5, O1.out.any.wide (Nat.le_refl _) (by omega), (O1.out.any.apart_of oR.out (by omega)).symm⟩ (by omega) (Nat.le_refl _) _ rfl
    · obtain ⟨hdst, h10⟩ := Hset.out hts
      have hR : flowR rs op d a b c n = rs.set d.toNat (orAll rs t.reads 0) := by unfold flowR; rw [if_pos ⟨hok, L0.out, h10⟩, if_neg h2, Hreads.out]
      have hrr : inRegs t.reads := by rw [Hreads.out]; exact reads_range hok
      have hd : 0 ≤ d ∧ d < 8 := by
        rcases newV_cases op d a b c n with ⟨hn, -⟩ | ⟨_, _, -⟩
        · exact absurd hok hn
        · unfold okI isReg at hok; omega
      obtain ⟨hd0, hd8⟩ := hd
      rw [hts, hdst] at cS
      have HR := Lib.hid hR
      have Hrr := Lib.hid hrr
      have Hsm := Lib.hid (reads_small t)
      have cR := impl_readRegisters t
      clear hR h10 Hset Hnot Hreads hok h2 h11 hts hdst hrr
      go_wp2_with fail
      refine (cS w4).mono ?_
      rintro e w5 ⟨rfl, hb5⟩
      have C5 := heap_below hcells hb5
      have K5 := Lib.hid (K.out.next hb5)
      have O5 := Lib.hid (O1.out.below hb5)
      obtain ⟨r0, r1, r2, r3, r4, r5, r6, r7, rfl⟩ := eight L0.out
      clear hcells K O1 hb5 cS
      have C5l : w5.heap[g8]? = some (.cells #[.int .i64 r0, .int .i64 r1, .int .i64 r2, .int .i64 r3, .int .i64 r4, .int .i64 r5, .int .i64 r6, .int .i64 r7] 76 (0, 0)) := C5
      have u0 := (blk (i := 0) C5l rfl).1
      have u1 := (blk (i := 1) C5l rfl).1
      have u2 := (blk (i := 2) C5l rfl).1
      have u3 := (blk (i := 3) C5l rfl).1
      have u4 := (blk (i := 4) C5l rfl).1
      have u5 := (blk (i := 5) C5l rfl).1
      have u6 := (blk (i := 6) C5l rfl).1
      have u7 := (blk (i := 7) C5l rfl).1
      go_wp2_with fail
      go_region_law (first
        | (go_simp; go_at_call 47; (with_reducible refine (cR _).mono ?_); intro e w6 h; (obtain ⟨X, mx, cx, rfl, hlx, ox, hb6⟩ := h); (have C6l := heap_below (w := w5.drew) C5l hb6); (have v0 := (blk (i := 0) C6l rfl).1); (have v1 := (blk (i := 1) C6l rfl).1); (have v2 := (blk (i := 2) C6l rfl).1); (have v3 := (blk (i := 3) C6l rfl).1); (have v4 := (blk (i := 4) C6l rfl).1); (have v5 := (blk (i := 5) C6l rfl).1); (have v6 := (blk (i := 6) C6l rfl).1); (have v7 := (blk (i := 7) C6l rfl).1); (have HL := Lib.hid hlx); clear hlx)
        | (go_simp; go_at_call 46; (with_reducible refine (impl_union8 r0 r1 r2 r3 r4 r5 r6 r7 X mx cx t.reads _ ox.ints HL.out (by have := Hsm.out; have := HL.out; omega) Hrr.out).mono ?_); rintro e w7 ⟨rfl, hb7⟩; (have C7 := heap_below C6l hb7); (have q8 := blk (cs := cells8 [r0, r1, r2, r3, r4, r5, r6, r7]) (i := d.toNat) C7 (cells8_at (l := [r0, r1, r2, r3, r4, r5, r6, r7]) (by simp; omega))); (obtain ⟨q8, f8⟩ := q8)))
      all_goals
        have K7 := (((K5.out.drew.next hb6).next hb7).far s2 d.toNat (.int .i64 (orAll [r0, r1, r2, r3, r4, r5, r6, r7] t.reads 0)))
        have O7 := Lib.hid ((((O5.out.drew.below hb6).below hb7).setFar' (g := g8) (i := d.toNat) t2 (.int .i64 (orAll [r0, r1, r2, r3, r4, r5, r6, r7] t.reads 0))))
        have C8 : (w7.setCell ⟨g8, d.toNat, none⟩ (.int .i64 (orAll [r0, r1, r2, r3, r4, r5, r6, r7] t.reads 0))).heap[g8]? = some (.cells (cells8 ([r0, r1, r2, r3, r4, r5, r6, r7].set d.toNat (orAll [r0, r1, r2, r3, r4, r5, r6, r7] t.reads 0))) 76 (0, 0)) := by
          have h := heap_set (cs := cells8 [r0, r1, r2, r3, r4, r5, r6, r7]) (i := d.toNat) C7 (.int .i64 (orAll [r0, r1, r2, r3, r4, r5, r6, r7] t.reads 0))
          rw [cells8_set] at h
          exact h
        generalize w7.setCell ⟨g8, d.toNat, none⟩ (.int .i64 (orAll [r0, r1, r2, r3, r4, r5, r6, r7] t.reads 0)) = w9 at *
        have s9 := heap_lt C8
        obtain ⟨yc0, yf0⟩ := blk (i := 0) K7.r rfl
        obtain ⟨yc1, yf1⟩ := blk (i := 1) K7.r rfl
        have oR := Lib.hid (own8 (lo := g8) C8 (by simp) (Nat.le_refl _))
        have K := Lib.hid K7
        clear K7 C8 C7 q8 f8 C6l hb7 hb6 C5 C5l u0 u1 u2 u3 u4 u5 u6 u7 v0 v1 v2 v3 v4 v5 v6 v7 ox O5 K5
        go_wp2_with fail
        rw [HR.out, HO.out]
        exact flow_out (lo := w0.heap.size) K.out ⟨oR.out.wide (by omega) s9, O7.out.any.wide (Nat.le_refl _) (by omega), (O7.out.any.apart_of oR.out (by omega)).symm⟩ (by omega) (Nat.le_refl _) _ rfl
end Go.Proofs.Ytklmhkckhdmelaa
