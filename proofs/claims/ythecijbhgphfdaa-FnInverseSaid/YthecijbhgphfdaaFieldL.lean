/- The laws FnField and FnInverse. -/
import Derived.Test.YthecijbhgphfdaaProg
import Derived.Test.YthecijbhgphfdaaFieldW
namespace Go.Proofs.Ythecijbhgphfdaa
open Go Go.RowKit
theorem impl_FAdd_is (p a b r : Int) (h : faddI p a b = r) (w : World) :
    Calls Try.prog 16 #[.int .i64 p, .int .i64 a, .int .i64 b] w fun e w' => e = .returned (.int .i64 r) ∧ Below w.heap.size w w' := by
  subst h; exact impl_FAdd p a b w
theorem impl_FSub_is (p a b r : Int) (h : fsubI p a b = r) (w : World) :
    Calls Try.prog 17 #[.int .i64 p, .int .i64 a, .int .i64 b] w fun e w' => e = .returned (.int .i64 r) ∧ Below w.heap.size w w' := by
  subst h; exact impl_FSub p a b w
theorem impl_FMul_is (p a b r : Int) (h : fmulI p a b = r) (w : World) :
    Calls Try.prog 15 #[.int .i64 p, .int .i64 a, .int .i64 b] w fun e w' => e = .returned (.int .i64 r) ∧ Below w.heap.size w w' := by
  subst h; exact impl_FMul p a b w
theorem FnField_walk (A : Option Addr) (n c : Nat) (w : World) (hb : Bytes w.heap.size w A n) (hm : n ≤ 9223372036854775807) :
    Calls Try.prog 3 #[.slice A n c] w fun e w' => e = .returned (.bool true) ∧ Below w.heap.size w w' := by
  by_cases hn : 1048576 < n
  · go_enter Try.func3, Try.ntmps3
    go_wp2_with fail
    refine (big_any A n c w true (by simpa using hn) hm).mono ?_
    rintro e w1 ⟨rfl, rfl⟩
    go_wp2_with fail
    go_ret
    exact ⟨rfl, Below.refl _ _⟩
  · have hn' : n ≤ 1048576 := by omega
    go_enter Try.func3, Try.ntmps3
    go_wp2_with fail
    refine (big_any A n c w false (by simpa using hn') hm).mono ?_
    rintro e w1 ⟨rfl, rfl⟩
    go_wp2_with fail
    refine (DrawPrime_any A n c w hb (by omega)).mono ?_
    rintro e w1 ⟨p, rfl, hp, hb1⟩
    have hbA := hb.keep fun k hk => hb1.block k hk
    have hr := hp.range
    go_wp2_with fail
    refine (DrawPlaces_any A n c w1 (fun h => by obtain ⟨b, o, e, hl, hc⟩ := hbA h; exact ⟨b, o, e, Nat.lt_of_lt_of_le hl hb1.size, hc⟩) (by omega)).mono ?_
    rintro e w2 ⟨g, cap, zs, rfl, hl, hpl, hown, hb2⟩
    have hb3 := hb1.trans (hb2.mono hb1.size)
    have hi := Ints.of_own hown
    obtain ⟨b0, o0, e0, hl0, c0⟩ := hi.at_ (j := 0) (by omega)
    obtain ⟨b1, o1, e1, hl1, c1⟩ := hi.at_ (j := 1) (by omega)
    obtain ⟨b2, o2, e2, hl2, c2⟩ := hi.at_ (j := 2) (by omega)
    injection e0 with e0; injection e0 with e00 e01
    injection e1 with e1; injection e1 with e10 e11
    injection e2 with e2; injection e2 with e20 e21
    subst e00 e01 e10 e11 e20 e21
    obtain ⟨x0, x1⟩ := hpl.at_ (j := 0) (by omega)
    obtain ⟨y0, y1⟩ := hpl.at_ (j := 1) (by omega)
    obtain ⟨z0, z1⟩ := hpl.at_ (j := 2) (by omega)
    generalize zs.getD 0 0 = qa at c0 x0 x1
    generalize zs.getD 1 0 = qb at c1 y0 y1
    generalize zs.getD 2 0 = qc at c2 z0 z1
    simp only [Nat.zero_add] at c0 c1 c2
    clear hown hi hpl hl hb hbA hb1 hb2 hm hn hn'
    have ha := isEl_mod hp qa
    have hbb := isEl_mod hp qb
    have hcc := isEl_mod hp qc
    go_wp2_with fail
    generalize qa % p = a at *
    generalize qb % p = b at *
    generalize qc % p = c' at *
    obtain ⟨s, hs⟩ : ∃ s, faddI p b c' = s := ⟨_, rfl⟩
    obtain ⟨t, ht⟩ : ∃ t, fmulI p a s = t := ⟨_, rfl⟩
    obtain ⟨u, hu⟩ : ∃ u, fmulI p a b = u := ⟨_, rfl⟩
    obtain ⟨v, hv⟩ : ∃ v, fmulI p a c' = v := ⟨_, rfl⟩
    obtain ⟨d, hd⟩ : ∃ d, fsubI p a b = d := ⟨_, rfl⟩
    obtain ⟨x, hx⟩ : ∃ x, fmulI p u c' = x := ⟨_, rfl⟩
    obtain ⟨y, hy⟩ : ∃ y, fmulI p b c' = y := ⟨_, rfl⟩
    have H5 := Lib.hid (show faddI p u v = t by rw [← hu, ← hv, ← field_distrib ha hbb hcc, hs, ht])
    have H7 := Lib.hid (show faddI p d b = a by rw [← hd]; exact field_sub ha hbb)
    have H10 := Lib.hid (show fmulI p a y = x by rw [← hy, ← hx, ← hu]; exact (field_assoc ha hbb hcc).symm)
    have H11 := Lib.hid (field_zero ha)
    have H12 := Lib.hid (field_one ha)
    have H1 := Lib.hid hs
    have H2 := Lib.hid ht
    have H3 := Lib.hid hu
    have H4 := Lib.hid hv
    have H6 := Lib.hid hd
    have H8 := Lib.hid hx
    have H9 := Lib.hid hy
    clear hs ht hu hv hd hx hy c0 c1 c2 ha hbb hcc
    refine (impl_FAdd_is p b c' s H1.out w2).mono ?_
    rintro e w3 ⟨rfl, hc3⟩
    have hd3 := hb3.trans (hc3.mono hb3.size)
    clear hc3 hb3
    go_wp2_with fail
    refine (impl_FMul_is p a s t H2.out w3).mono ?_
    rintro e w4 ⟨rfl, hc4⟩
    have hd4 := hd3.trans (hc4.mono hd3.size)
    clear hc4 hd3
    go_wp2_with fail
    refine (impl_FMul_is p a b u H3.out w4).mono ?_
    rintro e w5 ⟨rfl, hc5⟩
    have hd5 := hd4.trans (hc5.mono hd4.size)
    clear hc5 hd4
    go_wp2_with fail
    refine (impl_FMul_is p a c' v H4.out w5).mono ?_
    rintro e w6 ⟨rfl, hc6⟩
    have hd6 := hd5.trans (hc6.mono hd5.size)
    clear hc6 hd5
    go_wp2_with fail
    refine (impl_FAdd_is p u v t H5.out w6).mono ?_
    rintro e w7 ⟨rfl, hc7⟩
    have hd7 := hd6.trans (hc7.mono hd6.size)
    clear hc7 hd6
    go_wp2_with fail
    refine (impl_FSub_is p a b d H6.out w7).mono ?_
    rintro e w8 ⟨rfl, hc8⟩
    have hd8 := hd7.trans (hc8.mono hd7.size)
    clear hc8 hd7
    go_wp2_with fail
    refine (impl_FAdd_is p d b a H7.out w8).mono ?_
    rintro e w9 ⟨rfl, hc9⟩
    have hd9 := hd8.trans (hc9.mono hd8.size)
    clear hc9 hd8
    go_wp2_with fail
    refine (impl_FMul_is p a b u H3.out w9).mono ?_
    rintro e w10 ⟨rfl, hc10⟩
    have hd10 := hd9.trans (hc10.mono hd9.size)
    clear hc10 hd9
    go_wp2_with fail
    refine (impl_FMul_is p u c' x H8.out w10).mono ?_
    rintro e w11 ⟨rfl, hc11⟩
    have hd11 := hd10.trans (hc11.mono hd10.size)
    clear hc11 hd10
    go_wp2_with fail
    refine (impl_FMul_is p b c' y H9.out w11).mono ?_
    rintro e w12 ⟨rfl, hc12⟩
    have hd12 := hd11.trans (hc12.mono hd11.size)
    clear hc12 hd11
    go_wp2_with fail
    refine (impl_FMul_is p a y x H10.out w12).mono ?_
    rintro e w13 ⟨rfl, hc13⟩
    have hd13 := hd12.trans (hc13.mono hd12.size)
    clear hc13 hd12
    go_wp2_with fail
    refine (impl_FAdd_is p a 0 a H11.out w13).mono ?_
    rintro e w14 ⟨rfl, hc14⟩
    have hd14 := hd13.trans (hc14.mono hd13.size)
    clear hc14 hd13
    go_wp2_with fail
    refine (impl_FMul_is p a 1 a H12.out w14).mono ?_
    rintro e w15 ⟨rfl, hc15⟩
    have hd15 := hd14.trans (hc15.mono hd14.size)
    clear hc15 hd14
    go_wp2_with fail
    go_ret
    exact ⟨rfl, hd15⟩
theorem impl_FInv_is (p a r : Int) (h : finvI p a = r) (w : World) :
    Calls Try.prog 18 #[.int .i64 p, .int .i64 a] w fun e w' => e = .returned (.int .i64 r) ∧ Below w.heap.size w w' := by
  subst h; exact impl_FInv p a w
theorem impl_FSum_is (p : Int) (A : Option Addr) (n c : Nat) (xs : List Int) (r : Int) (h : fsumI p xs = r) (w : World) (hx : Ints w A xs) (hl : xs.length = n) (hn : n ≤ 1000000000) :
    Calls Try.prog 19 #[.int .i64 p, .slice A n c] w fun e w' => e = .returned (.int .i64 r) ∧ Below w.heap.size w w' := by
  subst h; exact impl_FSum p A n c xs w hx hl hn
theorem Ints.of_block {w : World} {g : Nat} {T : TypeId} {fr : Nat × Nat} {zs : List Int} (h : w.heap[g]? = some (.cells (intVals zs).toArray T fr)) : Ints w (some ⟨g, 0, none⟩) zs := fun _ =>
  ⟨g, 0, rfl, (Array.getElem?_eq_some_iff.1 h).1, fun j hj => by simp [World.cell?, h, intVals, List.getElem?_eq_getElem hj]⟩
theorem inverse_facts {p a : Int} (h : isEl p a) : ∃ x, finvI p a = x ∧ ((a = 0 ∧ x = -1) ∨ (a ≠ 0 ∧ x ≠ -1 ∧ isEl p x ∧ fmulI p a x = 1)) := by
  refine ⟨_, rfl, ?_⟩
  by_cases h0 : a = 0
  · subst h0; exact .inl ⟨rfl, finvI_zero p⟩
  · obtain ⟨h1, h2, h3, _⟩ := finvI_facts h h0
    have hx : isEl p (finvI p a) := ⟨h.1, by omega, h2⟩
    exact .inr ⟨h0, by omega, hx, by rw [fmulI_yes h hx, h3]⟩
theorem FnInverse_walk (A : Option Addr) (n c : Nat) (w : World) (hb : Bytes w.heap.size w A n) (hm : n ≤ 9223372036854775807) :
    Calls Try.prog 4 #[.slice A n c] w fun e w' => e = .returned (.bool true) ∧ Below w.heap.size w w' := by
  by_cases hn : 1048576 < n
  · go_enter Try.func4, Try.ntmps4
    go_wp2_with fail
    refine (big_any A n c w true (by simpa using hn) hm).mono ?_
    rintro e w1 ⟨rfl, rfl⟩
    go_wp2_with fail
    go_ret
    exact ⟨rfl, Below.refl _ _⟩
  · have hn' : n ≤ 1048576 := by omega
    go_enter Try.func4, Try.ntmps4
    go_wp2_with fail
    refine (big_any A n c w false (by simpa using hn') hm).mono ?_
    rintro e w1 ⟨rfl, rfl⟩
    go_wp2_with fail
    refine (DrawPrime_any A n c w hb (by omega)).mono ?_
    rintro e w1 ⟨p, rfl, hp, hb1⟩
    have hbA := hb.keep fun k hk => hb1.block k hk
    have hr := hp.range
    go_wp2_with fail
    refine (DrawPlaces_any A n c w1 (fun h => by obtain ⟨b, o, e, hl, hc⟩ := hbA h; exact ⟨b, o, e, Nat.lt_of_lt_of_le hl hb1.size, hc⟩) (by omega)).mono ?_
    rintro e w2 ⟨g, cap, zs, rfl, hl, hpl, hown, hb2⟩
    have hb3 := hb1.trans (hb2.mono hb1.size)
    have hi := Ints.of_own hown
    obtain ⟨b0, o0, e0, hl0, c0⟩ := hi.at_ (j := 0) (by omega)
    obtain ⟨b1, o1, e1, hl1, c1⟩ := hi.at_ (j := 1) (by omega)
    obtain ⟨b2, o2, e2, hl2, c2⟩ := hi.at_ (j := 2) (by omega)
    injection e0 with e0; injection e0 with e00 e01
    injection e1 with e1; injection e1 with e10 e11
    injection e2 with e2; injection e2 with e20 e21
    subst e00 e01 e10 e11 e20 e21
    obtain ⟨x0, x1⟩ := hpl.at_ (j := 0) (by omega)
    obtain ⟨y0, y1⟩ := hpl.at_ (j := 1) (by omega)
    obtain ⟨z0, z1⟩ := hpl.at_ (j := 2) (by omega)
    generalize zs.getD 0 0 = qa at c0 x0 x1
    generalize zs.getD 1 0 = qb at c1 y0 y1
    generalize zs.getD 2 0 = qc at c2 z0 z1
    simp only [Nat.zero_add] at c0 c1 c2
    clear hown hi hpl hl hb hbA hb1 hb2 hm hn hn'
    have ha := isEl_mod hp qa
    have hbb := isEl_mod hp qb
    have hcc := isEl_mod hp qc
    go_wp2_with fail
    generalize hqa : qa % p = a at *
    generalize hqb : qb % p = b at *
    generalize hqc : qc % p = c' at *
    obtain ⟨x, hx, hcase⟩ := inverse_facts ha
    obtain ⟨s, hs⟩ : ∃ s, fsumI p [a, b, c'] = s := ⟨_, rfl⟩
    have Hs2 := Lib.hid ((fsum_three ha hbb hcc).symm.trans hs)
    have Hs := Lib.hid hs
    have Hx := Lib.hid hx
    have H0 := Lib.hid (fsum_nil hp)
    clear hs hx hbb hcc
    refine (impl_FInv_is p a x Hx.out w2).mono ?_
    rintro e w3 ⟨rfl, hc3⟩
    have d1 := (hc3.cell (p := ⟨g, 1, none⟩) hl0).trans c1
    have d2 := (hc3.cell (p := ⟨g, 2, none⟩) hl0).trans c2
    have hl3 : g < w3.heap.size := Nat.lt_of_lt_of_le hl0 hc3.size
    have hd3 := hb3.trans (hc3.mono hb3.size)
    clear hc3 hb3 c0 c1 c2 hl0 hl1 hl2
    go_wp2_with fail
    go_region
    have e1 := heap_alloc_new w3 (.cells (intVals [a, b, c']).toArray 3)
    have l1 : w3.heap.size < (w3.alloc (.cells (intVals [a, b, c']).toArray 3)).heap.size := by simp
    have hd4 : Below w.heap.size w (w3.alloc (.cells (intVals [a, b, c']).toArray 3)).drew := (hd3.alloc hd3.size _).drew
    have f1 := (hd4.trans (Below.refl _ _)).size
    change Exit.then _ _ _ _ (w3.alloc (.cells (intVals [a, b, c']).toArray 3)).drew
    have e1' : (w3.alloc (.cells (intVals [a, b, c']).toArray 3)).drew.heap[w3.heap.size]? = some (.cells (intVals [a, b, c']).toArray 3 (0, 0)) := e1
    have m0 := (Below.heap_alloc w3 (.cells (intVals [a, b, c']).toArray 3) g hl3)
    have d1' : (w3.alloc (.cells (intVals [a, b, c']).toArray 3)).drew.cell? ⟨g, 1, none⟩ = some (.int .i64 qb) := (World.cell?_of_block m0).trans d1
    have d2' : (w3.alloc (.cells (intVals [a, b, c']).toArray 3)).drew.cell? ⟨g, 2, none⟩ = some (.int .i64 qc) := (World.cell?_of_block m0).trans d2
    generalize (w3.alloc (.cells (intVals [a, b, c']).toArray 3)).drew = w4 at *
    clear m0 e1 l1 d1 d2 hd3 hl3
    go_wp2_with fail
    go_region
    have e2 := heap_alloc_new w4 (.cells (intVals [c', b, a]).toArray 3)
    have hd5 : Below w.heap.size w (w4.alloc (.cells (intVals [c', b, a]).toArray 3)).drew := (hd4.alloc hd4.size _).drew
    change Exit.then _ _ _ _ (w4.alloc (.cells (intVals [c', b, a]).toArray 3)).drew
    have e2' : (w4.alloc (.cells (intVals [c', b, a]).toArray 3)).drew.heap[w4.heap.size]? = some (.cells (intVals [c', b, a]).toArray 3 (0, 0)) := e2
    have e3' : (w4.alloc (.cells (intVals [c', b, a]).toArray 3)).drew.heap[w3.heap.size]? = some (.cells (intVals [a, b, c']).toArray 3 (0, 0)) := (Below.heap_alloc w4 (.cells (intVals [c', b, a]).toArray 3) w3.heap.size (Array.getElem?_eq_some_iff.1 e1').1).trans e1'
    generalize (w4.alloc (.cells (intVals [c', b, a]).toArray 3)).drew = w5 at *
    generalize w3.heap.size = g3 at *
    generalize w4.heap.size = g4 at *
    have j1 := Ints.of_block e3'
    have j2 := Ints.of_block e2'
    clear e1' e2' e3' e2 d1' d2' hd4 f1
    rcases hcase with ⟨rfl, rfl⟩ | ⟨h0, h1, _, h3⟩
    · go_wp2_with fail
      refine (impl_FSum_is p _ 3 3 [0, b, c'] s Hs.out w5 j1 rfl (by omega)).mono ?_
      rintro e w6 ⟨rfl, k6⟩
      have j3 := j2.below k6
      have hd6 := hd5.trans (k6.mono hd5.size)
      clear k6 j2 j1 hd5
      go_wp2_with fail
      refine (impl_FSum_is p _ 3 3 [c', b, 0] s Hs2.out w6 j3 rfl (by omega)).mono ?_
      rintro e w7 ⟨rfl, k7⟩
      have hd7 := hd6.trans (k7.mono hd6.size)
      clear k7 j3 hd6
      go_wp2_with fail
      refine (impl_FSum_is p _ 0 0 [] 0 H0.out _ (Ints.nil _ _) rfl (by omega)).mono ?_
      rintro e w8 ⟨rfl, k8⟩
      have hd7' := hd7.alloc hd7.size (.cells #[] 3)
      have hd8 := hd7'.trans (k8.mono hd7'.size)
      clear k8 hd7 hd7'
      go_wp2_with fail
      refine (impl_FieldOk p w8).mono ?_
      rintro e w9 ⟨rfl, rfl⟩
      rw [decide_eq_true hp]
      go_wp2_with fail
      go_ret
      exact ⟨rfl, hd8⟩
    · have b0 : (a == 0) = false := beq_eq_false_iff_ne.2 h0
      have b1 : (x == -1) = false := beq_eq_false_iff_ne.2 h1
      have H3 := Lib.hid h3
      clear h3
      go_wp2_with fail
      refine (impl_FMul_is p a x 1 H3.out w5).mono ?_
      rintro e w10 ⟨rfl, k5⟩
      have j4 := j1.below k5
      have j5 := j2.below k5
      have hd10 := hd5.trans (k5.mono hd5.size)
      clear k5 j1 j2 hd5
      go_wp2_with fail
      refine (impl_FSum_is p _ 3 3 [a, b, c'] s Hs.out w10 j4 rfl (by omega)).mono ?_
      rintro e w6 ⟨rfl, k6⟩
      have j3 := j5.below k6
      have hd6 := hd10.trans (k6.mono hd10.size)
      clear k6 j4 j5 hd10
      go_wp2_with fail
      refine (impl_FSum_is p _ 3 3 [c', b, a] s Hs2.out w6 j3 rfl (by omega)).mono ?_
      rintro e w7 ⟨rfl, k7⟩
      have hd7 := hd6.trans (k7.mono hd6.size)
      clear k7 j3 hd6
      go_wp2_with fail
      refine (impl_FSum_is p _ 0 0 [] 0 H0.out _ (Ints.nil _ _) rfl (by omega)).mono ?_
      rintro e w8 ⟨rfl, k8⟩
      have hd7' := hd7.alloc hd7.size (.cells #[] 3)
      have hd8 := hd7'.trans (k8.mono hd7'.size)
      clear k8 hd7 hd7'
      go_wp2_with fail
      refine (impl_FieldOk p w8).mono ?_
      rintro e w9 ⟨rfl, rfl⟩
      rw [decide_eq_true hp]
      go_wp2_with fail
      go_ret
      exact ⟨rfl, hd8⟩
end Go.Proofs.Ythecijbhgphfdaa
