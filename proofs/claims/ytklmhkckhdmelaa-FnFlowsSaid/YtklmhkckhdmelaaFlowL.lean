/- The law FnFlows: the walk. No condition. -/
import Derived.Test.YtklmhkckhdmelaaProg
import Derived.Test.YtklmhkckhdmelaaPgF
import Derived.Test.YtklmhkckhdmelaaUnC
import Derived.Test.YtklmhkckhdmelaaUnSi
import Derived.Test.YtklmhkckhdmelaaFlowO
import Derived.Test.YtklmhkckhdmelaaFlowN
namespace Go.Proofs.Ytklmhkckhdmelaa
open Go Go.RowKit
theorem map_take {ds : List Int} {k : Nat} (hk : k < ds.length) (f : Int → Int) : (ds.take (k + 1)).map f = (ds.take k).map f ++ [f (ds.getD k 0)] := by
  have e : ds.getD k 0 = ds[k] := by rw [List.getD_eq_getElem?_getD, List.getElem?_eq_getElem hk]; rfl
  rw [List.take_add_one, List.getElem?_eq_getElem hk, e, List.map_append]
  rfl
theorem field_regs (A0 A1 : Option Addr) (n0 n1 c0 c1 : Nat) (w : World) : (Instr.field 32 (.agg #[.slice A0 n0 c0, .slice A1 n1 c1]) 0).run Try.prog w = .ok (.slice A0 n0 c0) w := by kernel_rfl
/-- Two lists that the law builds side by side. -/
structure Twin (w0 wr : World) (v u : Value) (k : Nat) (xs ys : List Int) : Prop where
  a : wr.ownsRow w0.heap.size 3 1 v k (intVals xs)
  b : wr.ownsRow w0.heap.size 3 1 u k (intVals ys)
  ap : apart v u
  low : Below w0.heap.size w0 wr
set_option maxHeartbeats 2000000 in
set_option maxRecDepth 100000 in
theorem FnFlows_walk (A : Option Addr) (n c : Nat) (w : World) (hb : Bytes w.heap.size w A n) (hm : n ≤ 9223372036854775807) :
    Calls Try.prog 3 #[.slice A n c] w fun e w' => e = .returned (.bool true) ∧ Below w.heap.size w w' := by
  by_cases hn : 1048576 < n
  · go_enter Try.func3, Try.ntmps3
    go_wp2_with fail
    refine (big_any A n c w true (by simpa using hn) hm).mono ?_
    rintro e w1 ⟨rfl, rfl⟩
    go_wp2_with fail
    go_ret
    exact ⟨rfl, Below.refl _ _⟩
  · have hn' : n ≤ 1048576 := by omega
    go_enter Try.func3, Try.ntmps3
    go_wp2_with fail
    refine (big_any A n c w false (by simpa using hn') hm).mono ?_
    rintro e w1 ⟨rfl, rfl⟩
    go_wp2_with fail
    refine (DrawProgram_any A n c w hb (by omega)).mono ?_
    intro e w1 h
    obtain ⟨A1, m1, c1, ss, rfl, hl, hP, o1, low⟩ := h
    have hp := hP.prog
    have m30 : m1 ≤ 2000000 := by have := hP.len; omega
    have cD := impl_OutputDeps A1 m1 c1 ss
    have cS := impl_UnrolledSize A1 m1 c1 ss
    have cF := impl_FlowOk A1 m1 c1 ss
    have cO := impl_OutputCount A1 m1 c1 ss
    rw [show sizeI ss = ((unrollL ss).length : Int) from if_pos hp] at cS
    unfold Post_A_bool depsI at cD
    have Hl := Lib.hid hl
    by_cases h120 : (unrollL ss).length ≤ 120
    case neg =>
      have hu : ¬ unrI ss := fun h => h120 h.2
      have hF : ∀ al, decide (flowOkI ss al) = false := fun al => decide_eq_false (fun h => hu h.1)
      rw [if_neg hu, decide_eq_false hu] at cD
      generalize (unrollL ss).length = z at *
      have z0 : (120 : Int) < z := by omega
      have HF := Lib.hid hF
      clear hu hp hP cO hl h120 hF hn hm hb hn'
      go_wp2_with fail
      refine (cD w1 o1.ints Hl.out m30).mono ?_
      rintro e w2 ⟨B, m, cb, rfl, oB, hb2⟩
      have hm2 := oB.len1
      simp only [List.length_nil] at hm2
      subst hm2
      have iB := oB.ints
      replace low := low.trans (hb2.mono low.size)
      replace o1 := o1.below hb2
      clear oB cD
      go_wp2_with fail
      refine (cS w2 o1.ints Hl.out m30).mono ?_
      rintro e w3 ⟨rfl, hb3⟩
      replace low := low.trans (hb3.mono low.size)
      replace o1 := o1.below hb3
      replace iB := Ints.below iB hb3
      go_wp2_with fail
      refine (cF B 0 cb [] w3 o1.ints Hl.out m30 iB rfl (by omega)).mono ?_
      rw [HF.out]
      rintro e w4 ⟨rfl, hb4⟩
      go_wp2_with fail
      go_ret
      exact ⟨rfl, low.trans (hb4.mono low.size)⟩
    have hu : unrI ss := ⟨hp, h120⟩
    have h5 := deps_five (unrollL ss)
    have hO := deps_outs hp
    have hlen : (deps (unrollL ss)).length ≤ 120 := by have := depsI_length ss; unfold depsI at this; rw [if_pos hu] at this; exact this
    rw [if_pos hu, decide_eq_true hu] at cD
    rw [show outsI ss = (outs (unrollL ss) : Int) from if_pos hu] at cO
    have hiff : ∀ al, decide (flowOkI ss al) = decide (within (deps (unrollL ss)) al) := fun al => by
      unfold flowOkI
      simp [hu]
    rw [← hO] at cO
    generalize deps (unrollL ss) = ds at *
    have Hiff := Lib.hid hiff
    have H5 := Lib.hid h5
    clear hu hp hP hl h120 hn hm hb hn' cS h5 hO hiff
    go_wp2_with fail
    refine (cD w1 o1.ints Hl.out m30).mono ?_
    rintro e w2 ⟨B, m, cb, rfl, oB, hb2⟩
    have hm2 := oB.len1
    have Hm := Lib.hid hm2
    rw [hm2] at cO hlen
    have iB := oB.ints.bound
    replace low := low.trans (hb2.mono low.size)
    replace o1 := o1.below hb2
    have i1 := o1.ints.bound
    clear oB cD hm2 hb2 o1
    have t0 : Twin w2 ((w2.alloc (.cells #[] 3)).alloc (.cells #[] 3)) (.slice (some ⟨w2.heap.size, 0, none⟩) 0 0) (.slice (some ⟨w2.heap.size + 1, 0, none⟩) 0 0) 0 [] [] :=
      ⟨own_below (World.ownsRow_made (e := 3) (size := 1) (base := w2.heap.size) w2 #[] 0 (Nat.le_refl _) (by unfold maxLen; omega) rfl) (below_alloc _ _),
       by have h := World.ownsRow_made (e := 3) (size := 1) (base := w2.heap.size) (w2.alloc (.cells #[] 3)) #[] 0 (by simp) (by unfold maxLen; omega) rfl; rw [show (w2.alloc (.cells #[] 3)).heap.size = w2.heap.size + 1 by simp] at h; exact h,
       fun k e e' => by simp [Value.ownBlock] at e e'; omega, low_alloc (below_alloc _ _) _⟩
    have HT := Lib.hid t0
    clear t0
    go_wp2_with fail
    go_loopw [6, 7, 8, 9] (fun v u a i wr => ∃ (k : Nat) (z : Int), k ≤ m ∧ i = .int .i64 k ∧ a = .int .i64 z ∧ Hid (orList ds 0 = orList (ds.drop k) z) ∧ Twin w2 wr v u k ((ds.take k).map fun x => bits .or .i64 x 4) (List.replicate k 0)) (fun _ _ _ i _ => m - (intOf i).toNat)
    case atStart => exact ⟨0, 0, Nat.zero_le _, rfl, rfl, Lib.hid (by rw [List.drop_zero]), HT.out⟩
    case round =>
      obtain ⟨k, z, hk, rfl, rfl, hor, tw⟩ := hrel
      clear HT
      obtain ⟨Av, lv, cv, rfl, rfl⟩ := ownsRow_slice tw.a
      obtain ⟨Au, lu, cu, rfl, rfl⟩ := ownsRow_slice tw.b
      by_cases hlt : k < m
      · have hkd : k < ds.length := by rw [Hm.out]; exact hlt
        obtain ⟨g, o, rfl, _, q0⟩ := (iB.below tw.low).at_ hkd
        have hmap := map_take hkd (fun x => bits .or .i64 x 4)
        have hor2 := hor.out.trans (orList_step hkd z)
        generalize hx : ds.getD k 0 = x at *
        have Hmap := Lib.hid hmap
        have Hor := Lib.hid hor2
        have k0 : (0 : Int) ≤ k := by omega
        have k1 : (k : Int) < m := by omega
        have hal := below_alloc wr (.cells #[.int .i64 (bits .or .i64 x 4)] 3)
        have a1 := own_below tw.a hal
        have b1 := own_below tw.b hal
        have low1 := tw.low.trans (hal.mono tw.low.size)
        have ap1 := tw.ap
        have sb := b1.lt
        have hq : ∀ W : World, Below w2.heap.size w2 W → W.cell? ⟨g, o + k, none⟩ = some (.int .i64 x) := fun W hW => by
          obtain ⟨g', o', e, _, hc'⟩ := (iB.below hW).at_ hkd
          injection e with e
          injection e with e1 e2
          subst e1 e2
          rw [hc', hx]
        have HQ := Lib.hid hq
        clear hq
        clear tw hal hmap hor2 hor hx
        go_wp2_with (first | (at_builtin; refine app_list (e' := 3) elemInt rfl _ _ rfl w2.heap.size _ k (intVals ((ds.take k).map fun x => bits .or .i64 x 4)) rfl a1 wr.heap.size 1 1 _ (0, 0) rfl (heap_alloc_new wr _) rfl (oneCell_i64 [_]) (by omega) (by unfold maxLen; omega) (by omega) low1.size (wr.heap.size + 1) (by simp) ?_))
        intro g3 cap3 w3 ho3 hg3 hat3 hl3
        have low3 := below_own low1 a1 hg3 (Nat.le_refl _) low1.size
        have b3 := b1.kept hg3 (by
          rcases hv : (Value.slice Au k cu).ownBlock with _ | j
          · exact .inl rfl
          · exact .inr (fun e => ap1 j e.symm hv))
        have ap3 : apart (.slice (some ⟨g3, 0, none⟩) (k + 1) cap3) (.slice Au k cu) := apart_app (H := wr.heap.size + 1) ap1 (fun j e => by have := (sb j e).2; simpa using this) hat3
        have hal4 := below_alloc w3 (.cells #[.int .i64 0] 3)
        have a4 := own_below ho3 hal4
        have b4 := own_below b3 hal4
        have low4 := low3.trans (hal4.mono low3.size)
        have sa := a4.lt
        clear ho3 hg3 hat3 a1 b1 sb low1 ap1 b3 hal4 low3 q0
        go_wp2_with (first | (at_builtin; refine app_list (e' := 3) elemInt rfl _ _ rfl w2.heap.size _ k (intVals (List.replicate k 0)) rfl b4 w3.heap.size 1 1 _ (0, 0) rfl (heap_alloc_new w3 _) rfl (oneCell_i64 [_]) (by omega) (by unfold maxLen; omega) (by omega) low4.size (w3.heap.size + 1) (by simp) ?_))
        intro g5 cap5 w5 ho5 hg5 hat5 hl5
        have low5 := below_own low4 b4 hg5 (Nat.le_refl _) low4.size
        have a5 := a4.kept hg5 (by
          rcases hv : (Value.slice (some ⟨g3, 0, none⟩) (k + 1) cap3).ownBlock with _ | j
          · exact .inl rfl
          · exact .inr (fun e => ap3 j hv e.symm))
        have ap5 : apart (.slice (some ⟨g5, 0, none⟩) (k + 1) cap5) (.slice (some ⟨g3, 0, none⟩) (k + 1) cap3) := apart_app (H := w3.heap.size + 1) ap3.symm (fun j e => by have := (sa j e).2; simpa using this) hat5
        have q5 := HQ.out w5 low5
        have TW : Hid (Twin w2 w5 (.slice (some ⟨g3, 0, none⟩) (k + 1) cap3) (.slice (some ⟨g5, 0, none⟩) (k + 1) cap5) (k + 1) ((ds.take (k + 1)).map fun x => bits .or .i64 x 4) (List.replicate (k + 1) 0)) := Lib.hid ⟨by
          rw [Hmap.out]
          simpa [intVals] using a5, by
          rw [List.replicate_succ']
          simpa [intVals] using ho5, ap5.symm, low5⟩
        clear ho5 hg5 hat5 a4 b4 sa low4 ap3 a5 ap5 low5 HQ Hmap
        go_wp2_with fail
        go_roundw
        case rel => exact ⟨k + 1, _, by omega, by go_num, rfl, Hor, TW.out⟩
        case measure => simp [intOf]; omega
      · obtain rfl : k = m := by omega
        have hd : ds.drop k = [] := by rw [← Hm.out]; exact List.drop_length
        have htk : ds.take k = ds := by rw [← Hm.out]; exact List.take_length
        have hz := hor.out
        rw [hd] at hz
        simp only [orList] at hz
        have iv := Ints.of_own tw.a
        have iu := Ints.of_own tw.b
        rw [htk] at iv
        have low6 := low.trans (tw.low.mono low.size)
        have j1 := (i1.below tw.low).ints tw.low.size
        have jB := (iB.below tw.low).ints tw.low.size
        have hlv : (ds.map fun x => bits .or .i64 x 4).length = k := by rw [List.length_map, Hm.out]
        have hw1 : decide (flowOkI ss ds) = true := by rw [Hiff.out]; exact decide_eq_true (within_same H5.out)
        have hw2 : decide (flowOkI ss (ds.map fun x => bits .or .i64 x 4)) = true := by rw [Hiff.out]; exact decide_eq_true (within_more H5.out)
        have hw3 : decide (flowOkI ss (List.replicate k 0)) = (z == 0) := by
          rw [Hiff.out, ← Hm.out]
          have := within_none H5.out
          rw [hz] at this
          by_cases h0 : z = 0
          · rw [decide_eq_true (this.2 h0), h0]; rfl
          · rw [decide_eq_false (fun h => h0 (this.1 h))]; exact (beq_eq_false_iff_ne.2 h0).symm
        have HV := Lib.hid hlv
        have H1 := Lib.hid hw1
        have H2 := Lib.hid hw2
        have H3 := Lib.hid hw3
        clear hd htk hz hor tw low iB i1 hlv hw1 hw2 hw3 Hiff
        go_wp2_with fail
        refine (cF B k cb ds _ j1 Hl.out m30 jB Hm.out (by omega)).mono ?_
        rw [H1.out]
        rintro e w7 ⟨rfl, hb7⟩
        replace low6 := low6.trans (hb7.mono low6.size)
        replace j1 := Ints.below j1 hb7
        replace iv := Ints.below iv hb7
        replace iu := Ints.below iu hb7
        clear hb7
        go_wp2_with fail
        refine (cF Av k cv (ds.map fun x => bits .or .i64 x 4) w7 j1 Hl.out m30 iv HV.out (by omega)).mono ?_
        rw [H2.out]
        rintro e w8 ⟨rfl, hb8⟩
        replace low6 := low6.trans (hb8.mono low6.size)
        replace j1 := Ints.below j1 hb8
        replace iu := Ints.below iu hb8
        clear hb8 iv
        go_wp2_with fail
        refine (cF Au k cu (List.replicate k 0) w8 j1 Hl.out m30 iu (by simp) (by omega)).mono ?_
        rw [H3.out]
        rintro e w9 ⟨rfl, hb9⟩
        replace low6 := low6.trans (hb9.mono low6.size)
        replace j1 := Ints.below j1 hb9
        clear hb9 iu cF
        go_wp2_with fail
        refine (cO w9 j1 Hl.out m30).mono ?_
        rintro e w10 ⟨rfl, hb10⟩
        replace low6 := low6.trans (hb10.mono low6.size)
        clear hb10 cO
        have hfld := field_regs
        go_wp2_with fail
        refine (impl_FlowNew w10).mono ?_
        rintro e w11 ⟨F0, F1, f0, f1, d0, d1, rfl, oF, hb11⟩
        have hf8 := oF.o0.len1
        obtain rfl : f0 = 8 := by rw [← hf8]; rfl
        clear oF hf8
        go_wp2_with fail
        go_ret
        exact ⟨rfl, low6.trans (hb11.mono low6.size)⟩
end Go.Proofs.Ytklmhkckhdmelaa
