/- Compilation: words of bits: the program's and the model's. No condition. -/
import Derived.Test.YtklekabjhehopaaProg
import Derived.Test.YtklekabjhehopaaCmL
import Derived.Test.YtklekabjhehopaaCmW
import Derived.Deep.RegionHeld3
import Derived.Test.YtklekabjhehopaaB1
namespace Go.Proofs.Ytklekabjhehopaa
open Go Go.RowKit
theorem pad_length (xs : List Int) {k : Nat} (h : k ≤ xs.length) : (padL xs k).length = xs.length := by
  unfold padL
  rw [List.length_append, List.length_take, List.length_replicate]
  omega
theorem pad_at (xs : List Int) {k : Nat} (h : k ≤ xs.length) (j : Nat) : (padL xs k).getD j 0 = if j < k then xs.getD j 0 else 0 := by
  have hl : (xs.take k).length = k := by rw [List.length_take]; omega
  unfold padL
  by_cases hj : j < k
  · rw [if_pos hj, gD_left (by omega)]
    simp only [List.getD_eq_getElem?_getD]
    rw [List.getElem?_take_of_lt hj]
  · rw [if_neg hj, gD_right (by omega)]
    simp only [List.getD_eq_getElem?_getD]
    by_cases h2 : j - (xs.take k).length < xs.length - k
    · rw [List.getElem?_replicate, if_pos h2]
      rfl
    · rw [List.getElem?_replicate, if_neg h2]
      rfl
theorem ext_gD {a b : List Int} (h : a.length = b.length) (he : ∀ i, i < a.length → a.getD i 0 = b.getD i 0) : a = b := by
  apply List.ext_getElem?
  intro i
  by_cases hi : i < a.length
  · have e := he i hi
    rw [List.getD_eq_getElem?_getD, List.getD_eq_getElem?_getD, List.getElem?_eq_getElem hi, List.getElem?_eq_getElem (by omega)] at e
    rw [List.getElem?_eq_getElem hi, List.getElem?_eq_getElem (by omega)]
    simp only [Option.getD_some] at e
    rw [e]
  · rw [List.getElem?_eq_none (by omega), List.getElem?_eq_none (by omega)]
theorem orb_fin : ∀ r : Fin 4, ∀ v : Fin 8, ∀ y : Fin 2, (v.val : Int) < 2 ^ r.val → bits .or .i64 (v.val : Int) (wrap64 ((y.val : Int) * 2 ^ r.val)) = (v.val : Int) + (y.val : Int) * 2 ^ r.val := by decide +kernel
theorem or_bit {r : Nat} (hr : r < 4) {v y : Int} (hv : 0 ≤ v ∧ v < 2 ^ r) (hy : isBit y) : bits .or .i64 v (wrap64 (y * 2 ^ r)) = v + y * 2 ^ r := by
  have h8 : v < 8 := by
    rcases (show r = 0 ∨ r = 1 ∨ r = 2 ∨ r = 3 by omega) with rfl | rfl | rfl | rfl <;> omega
  have hy2 := hy.or
  have h := orb_fin ⟨r, hr⟩ ⟨v.toNat, by omega⟩ ⟨y.toNat, by omega⟩
  have e1 : ((v.toNat : Nat) : Int) = v := by omega
  have e2 : ((y.toNat : Nat) : Int) = y := by omega
  simp only [e1, e2] at h
  exact h hv.2
/-- What a word of which k bits are set gains with the next bit. -/
theorem words_pad {xs : List Int} (hb : allBit xs) (h4 : xs.length % 4 = 0) {k : Nat} (hk : k < xs.length) :
    (0 ≤ (words4 (padL xs k)).getD (k / 4) 0 ∧ (words4 (padL xs k)).getD (k / 4) 0 < 2 ^ (k % 4)) ∧ (words4 (padL xs k)).set (k / 4) ((words4 (padL xs k)).getD (k / 4) 0 + xs.getD k 0 * 2 ^ (k % 4)) = words4 (padL xs (k + 1)) := by
  have l0 := pad_length xs (Nat.le_of_lt hk)
  have l1 := pad_length xs (Nat.succ_le_of_lt hk)
  have w0 := words4_length (padL xs k)
  have w1 := words4_length (padL xs (k + 1))
  have A0 : ∀ i, i < xs.length / 4 → _ := fun i hi => words4_at (padL xs k) i (by rw [l0]; exact hi)
  have A1 : ∀ i, i < xs.length / 4 → _ := fun i hi => words4_at (padL xs (k + 1)) i (by rw [l1]; exact hi)
  simp only [pad_at xs (Nat.le_of_lt hk)] at A0
  simp only [pad_at xs (Nat.succ_le_of_lt hk)] at A1
  have hj : k / 4 < xs.length / 4 := by omega
  obtain ⟨j, hj2⟩ : ∃ j, k / 4 = j := ⟨_, rfl⟩
  have b0 := (hb.at_ (4 * j)).or
  have b1 := (hb.at_ (4 * j + 1)).or
  have b2 := (hb.at_ (4 * j + 2)).or
  have far : ∀ i, i < xs.length / 4 → i ≠ j → (words4 (padL xs k)).getD i 0 = (words4 (padL xs (k + 1))).getD i 0 := fun i hi hne => by
    rw [A0 i hi, A1 i hi]
    have c : ∀ t, t < 4 → (if 4 * i + t < k then xs.getD (4 * i + t) 0 else 0) = if 4 * i + t < k + 1 then xs.getD (4 * i + t) 0 else 0 := fun t ht => by
      by_cases h : 4 * i + t < k
      · rw [if_pos h, if_pos (by omega)]
      · rw [if_neg h, if_neg (by omega)]
    rw [c 1 (by omega), c 2 (by omega), c 3 (by omega), show (if 4 * i < k then xs.getD (4 * i) 0 else 0) = _ from c 0 (by omega)]
    rfl
  have near : (0 ≤ (words4 (padL xs k)).getD j 0 ∧ (words4 (padL xs k)).getD j 0 < 2 ^ (k % 4)) ∧ (words4 (padL xs (k + 1))).getD j 0 = (words4 (padL xs k)).getD j 0 + xs.getD k 0 * 2 ^ (k % 4) := by
    have a0 := A0 j (by omega)
    have a1 := A1 j (by omega)
    rcases (show k = 4 * j ∨ k = 4 * j + 1 ∨ k = 4 * j + 2 ∨ k = 4 * j + 3 by omega) with e | e | e | e
    · rw [if_neg (by omega), if_neg (by omega), if_neg (by omega), if_neg (by omega)] at a0
      rw [if_pos (by omega), if_neg (by omega), if_neg (by omega), if_neg (by omega)] at a1
      rw [a0, a1, show k % 4 = 0 by omega, e]
      omega
    · rw [if_pos (by omega), if_neg (by omega), if_neg (by omega), if_neg (by omega)] at a0
      rw [if_pos (by omega), if_pos (by omega), if_neg (by omega), if_neg (by omega)] at a1
      rw [a0, a1, show k % 4 = 1 by omega, e]
      omega
    · rw [if_pos (by omega), if_pos (by omega), if_neg (by omega), if_neg (by omega)] at a0
      rw [if_pos (by omega), if_pos (by omega), if_pos (by omega), if_neg (by omega)] at a1
      rw [a0, a1, show k % 4 = 2 by omega, e]
      omega
    · rw [if_pos (by omega), if_pos (by omega), if_pos (by omega), if_neg (by omega)] at a0
      rw [if_pos (by omega), if_pos (by omega), if_pos (by omega), if_pos (by omega)] at a1
      rw [a0, a1, show k % 4 = 3 by omega, e]
      omega
  rw [hj2]
  refine ⟨near.1, ext_gD (by rw [List.length_set, w0, w1, l0, l1]) (fun i hi => ?_)⟩
  rw [List.length_set, w0, l0] at hi
  by_cases hij : j = i
  · subst hij
    rw [gSetEq (by rw [w0, l0]; exact hi), near.2]
  · rw [gSetNe hij]
    exact far i hi (fun e => hij e.symm)
theorem words_zero {xs : List Int} : words4 (padL xs 0) = List.replicate (xs.length / 4) 0 := by
  have l0 := pad_length xs (Nat.zero_le _)
  refine ext_gD (by rw [words4_length, l0, List.length_replicate]) (fun i hi => ?_)
  rw [words4_length, l0] at hi
  rw [words4_at _ _ (by rw [l0]; exact hi)]
  simp only [pad_at xs (Nat.zero_le _)]
  rw [if_neg (by omega), if_neg (by omega), if_neg (by omega), if_neg (by omega), List.getD_eq_getElem?_getD, List.getElem?_replicate, if_pos hi]
  rfl
set_option maxRecDepth 100000 in
set_option maxHeartbeats 2000000 in
theorem impl_WordsOf (A : Option Addr) (n c : Nat) (zs : List Int) (w : World) (hz : Ints w A zs) (hl : zs.length = n) (hn : n ≤ 2000000) :
    Calls Try.prog 19 #[.slice A n c] w (Post_A (wordsI zs) w) := by
  have cC := impl_ContainsBit A n c zs (decide (allBit zs)) rfl w hz hl (by omega)
  by_cases h4 : n % 4 = 0
  case neg =>
    rw [show wordsI zs = [] from if_neg (fun e => h4 (by rw [← hl]; exact e.1))]
    have ht : ¬ (n : Int).tmod 4 = 0 := by rw [Int.tmod_eq_emod_of_nonneg (by omega)]; omega
    clear cC hz hl
    go_enter Try.func19, Try.ntmps19
    go_wp2_with fail
    go_ret
    exact ⟨none, 0, 0, rfl, OwnA.nil _ _ _ _, Below.refl _ _⟩
  have ht : (n : Int).tmod 4 = 0 := by rw [Int.tmod_eq_emod_of_nonneg (by omega)]; omega
  by_cases hb : allBit zs
  case neg =>
    rw [show wordsI zs = [] from if_neg (fun e => hb e.2)]
    rw [decide_eq_false hb] at cC
    clear hz hl hb
    go_enter Try.func19, Try.ntmps19
    go_wp2_with fail
    refine cC.mono ?_
    rintro e w1 ⟨rfl, rfl⟩
    clear cC
    go_wp2_with fail
    go_ret
    exact ⟨none, 0, 0, rfl, OwnA.nil _ _ _ _, Below.refl _ _⟩
  rw [show wordsI zs = words4 zs from if_pos ⟨by rw [hl]; exact h4, hb⟩]
  rw [decide_eq_true hb] at cC
  obtain ⟨q, hq⟩ : ∃ q, n / 4 = q := ⟨_, rfl⟩
  have hd : (n : Int).tdiv 4 = (q : Int) := by rw [Int.tdiv_eq_ediv_of_nonneg (by omega)]; omega
  have hw : IntKind.i64.wrap (q : Int) = (q : Int) := wrapB (by omega) (by omega)
  go_enter Try.func19, Try.ntmps19
  go_wp2_with fail
  refine cC.mono ?_
  rintro e w1 ⟨rfl, rfl⟩
  clear cC
  go_wp2_with (first | (refine make_fullI Try.underlying29 infoInt rfl rfl _ _ rfl w.heap.size _ _ _ _ q rfl rfl rfl rfl (by omega) (by unfold maxLen; omega) (Nat.le_refl _) ?_))
  intro w3 hown3 hg3
  have hw4 : words4 (padL zs 0) = List.replicate q 0 := by rw [words_zero, hl, hq]
  have S0 := Lib.hid (show Grow w w3 (.slice (some ⟨w.heap.size, 0, none⟩) q q) q (words4 (padL zs 0)) from ⟨by rw [hw4, show intVals (List.replicate q 0) = List.replicate q (.int .i64 0) by simp [intVals]]; exact hown3, (Below.refl _ _).grown hg3 (Nat.le_refl _) (fun k h => by cases h)⟩)
  clear hown3 hg3 hw4
  have HZ := Lib.hid hz.bound
  have HL := Lib.hid hl
  clear hz hl
  go_wp2_with fail
  go_loopw [20] (fun i wr => ∃ k : Nat, k ≤ n ∧ i = .int .i64 k ∧ Grow w wr (.slice (some ⟨w.heap.size, 0, none⟩) q q) q (words4 (padL zs k))) (fun i _ => n - (intOf i).toNat)
  case atStart => exact ⟨0, by omega, rfl, S0.out⟩
  case round =>
    obtain ⟨k, hk, rfl, gr⟩ := hrel
    clear S0
    by_cases hlt : k < n
    · have k0 : (0 : Int) ≤ k := by omega
      have k1 : (k : Int) < n := by omega
      obtain ⟨b, o, rfl, hbl, cb⟩ := (HZ.out.below gr.low).at_ (j := k) (by rw [HL.out]; exact hlt)
      obtain ⟨y0, y1⟩ := hb.at_ k
      obtain ⟨⟨v0, v1⟩, hset⟩ := words_pad hb (by rw [HL.out]; exact h4) (k := k) (by rw [HL.out]; exact hlt)
      obtain ⟨u0, f0⟩ := gr.at_ (j := k / 4) (by omega)
      have HS0 := Lib.hid hset
      generalize zs.getD k 0 = y at *
      generalize (words4 (padL zs k)).getD (k / 4) 0 = v at *
      have d1 : (k : Int).tdiv 4 = ((k / 4 : Nat) : Int) := by rw [Int.tdiv_eq_ediv_of_nonneg (by omega)]; omega
      have d2 : (k : Int).tmod 4 = ((k % 4 : Nat) : Int) := by rw [Int.tmod_eq_emod_of_nonneg (by omega)]; omega
      have hj4 : k % 4 < 4 := by omega
      have hjq : k / 4 < q := by omega
      have HS := HS0
      clear hset HS0
      generalize k / 4 = j at *
      generalize k % 4 = r at *
      have j0 : (0 : Int) ≤ j := by omega
      have j1 : (j : Int) < q := by omega
      have r0 : (0 : Int) ≤ r := by omega
      have wj : IntKind.i64.wrap (j : Int) = (j : Int) := wrapB (by omega) (by omega)
      have wr4 : IntKind.i64.wrap (r : Int) = (r : Int) := wrapB (by omega) (by omega)
      go_upto_region 7 with (fail)
      go_region
      have hs := (gr.set (Nat.le_refl _) j (v + y * 2 ^ r)).drew
      rw [HS.out] at hs
      have H := Lib.hid hs
      rw [or_bit hj4 ⟨v0, v1⟩ ⟨y0, y1⟩]
      clear gr hs u0 f0 cb
      go_wp2_with fail
      go_roundw
      case rel => exact ⟨k + 1, by omega, by go_num, H.out⟩
      case measure => simp [intOf]; omega
    · obtain rfl : k = n := by omega
      rw [show padL zs k = zs by rw [← HL.out]; exact pad_all zs] at gr
      have hd := gr.done
      obtain ⟨A', m', c', he, hl, ho, hb⟩ := hd
      injection he with he
      injection he with he1 he2 he3
      subst he1 he2 he3
      have O := Lib.hid (And.intro ho.any hb)
      clear gr ho hl hb
      go_wp2_with fail
      go_ret
      exact ⟨_, _, _, rfl, O.out.1, O.out.2⟩
set_option maxRecDepth 100000 in
set_option maxHeartbeats 2000000 in
theorem spec_WordsOf (A : Option Addr) (n c : Nat) (zs : List Int) (w : World) (hz : Ints w A zs) (hl : zs.length = n) (hn : n ≤ 2000000) :
    Calls Try.prog 28 #[.slice A n c] w (Post_A (wordsI zs) w) := by
  have al := below_alloc w (.cells #[] 3)
  have G0 := Grow.empty (w := w) (wr := w) (Below.refl _ _)
  have z1 := hz.al (.cells #[] 3)
  have cC := spec_l13BitsN A n c zs (decide (allBit zs)) rfl _ z1 hl (by omega)
  have hd := G0.done
  obtain ⟨A', m', c', he, hlr, ho, hbr⟩ := hd
  injection he with he
  injection he with he1 he2 he3
  subst he1 he2 he3
  have O := Lib.hid (And.intro ho.any hbr)
  clear ho hlr hbr
  by_cases h4 : n % 4 = 0
  case neg =>
    rw [show wordsI zs = [] from if_neg (fun e => h4 (by rw [← hl]; exact e.1))]
    have ht : ¬ (n : Int).tmod 4 = 0 := by rw [Int.tmod_eq_emod_of_nonneg (by omega)]; omega
    clear cC hz hl z1 al G0
    go_enter Try.func28, Try.ntmps28
    go_wp2_with fail
    go_ret
    exact ⟨_, _, _, rfl, O.out.1, O.out.2⟩
  have ht : (n : Int).tmod 4 = 0 := by rw [Int.tmod_eq_emod_of_nonneg (by omega)]; omega
  by_cases hb : allBit zs
  case neg =>
    rw [show wordsI zs = [] from if_neg (fun e => hb e.2)]
    rw [decide_eq_false hb] at cC
    clear hz hl z1 al G0 hb
    go_enter Try.func28, Try.ntmps28
    go_wp2_with fail
    refine cC.mono ?_
    rintro e w1 ⟨rfl, rfl⟩
    clear cC
    go_wp2_with fail
    go_ret
    exact ⟨_, _, _, rfl, O.out.1, O.out.2⟩
  rw [show wordsI zs = words4 zs from if_pos ⟨by rw [hl]; exact h4, hb⟩]
  rw [decide_eq_true hb] at cC
  have S0 := Lib.hid G0
  have HZ := Lib.hid hz.bound
  have HL := Lib.hid hl
  have WL := Lib.hid (words4_length zs)
  clear hz hl z1 al G0 O
  go_enter Try.func28, Try.ntmps28
  go_wp2_with fail
  refine cC.mono ?_
  rintro e w1 ⟨rfl, rfl⟩
  clear cC
  go_wp2_with fail
  go_loopw [3, 4] (fun s i wr => ∃ k : Nat, k * 4 ≤ n ∧ i = .int .i64 ((k * 4 : Nat) : Int) ∧ Grow w wr s k ((words4 zs).take k)) (fun _ i _ => n - (intOf i).toNat)
  case atStart => exact ⟨0, by omega, rfl, S0.out⟩
  case round =>
    obtain ⟨k, hk, rfl, gr⟩ := hrel
    clear S0
    obtain ⟨q, hq⟩ : ∃ q, k * 4 = q := ⟨_, rfl⟩
    rw [hq]
    by_cases hlt : q < n
    · have zb := HZ.out.below gr.low
      obtain ⟨b, o, rfl, hbl, c0⟩ := zb.at_ (j := q) (by rw [HL.out]; omega)
      obtain ⟨b', o', e1, _, c1⟩ := zb.at_ (j := q + 1) (by rw [HL.out]; omega)
      injection e1 with e1; injection e1 with e11 e12; subst e11 e12
      obtain ⟨b', o', e1, _, c2⟩ := zb.at_ (j := q + 2) (by rw [HL.out]; omega)
      injection e1 with e1; injection e1 with e11 e12; subst e11 e12
      obtain ⟨b', o', e1, _, c3⟩ := zb.at_ (j := q + 3) (by rw [HL.out]; omega)
      injection e1 with e1; injection e1 with e11 e12; subst e11 e12
      have y0 := (hb.at_ q).or
      have y1 := (hb.at_ (q + 1)).or
      have y2 := (hb.at_ (q + 2)).or
      have y3 := (hb.at_ (q + 3)).or
      have HT := Lib.hid (words4_step (xs := zs) (i := k) (by rw [HL.out]; omega))
      rw [show 4 * k = q by omega] at HT
      generalize zs.getD q 0 = x0 at *
      generalize zs.getD (q + 1) 0 = x1 at *
      generalize zs.getD (q + 2) 0 = x2 at *
      generalize zs.getD (q + 3) 0 = x3 at *
      obtain ⟨Au, mu, cu, rfl, rfl⟩ := ownsRow_slice gr.own
      have gs := gr.size
      have k0 : (0 : Int) ≤ q := by omega
      have k1 : (q : Int) < n := by omega
      have p1 : (0 : Int) ≤ (q : Int) + 1 := by omega
      have p2 : (0 : Int) ≤ (q : Int) + 2 := by omega
      have p3 : (0 : Int) ≤ (q : Int) + 3 := by omega
      have q1 : (q : Int) + 1 < n := by omega
      have q2 : (q : Int) + 2 < n := by omega
      have q3 : (q : Int) + 3 < n := by omega
      have t1 : ((q : Int) + 1).toNat = q + 1 := by omega
      have t2 : ((q : Int) + 2).toNat = q + 2 := by omega
      have t3 : ((q : Int) + 3).toNat = q + 3 := by omega
      have v1 : IntKind.i64.wrap ((q : Int) + 1) = (q : Int) + 1 := wrapB (by omega) (by omega)
      have v2 : IntKind.i64.wrap ((q : Int) + 2) = (q : Int) + 2 := wrapB (by omega) (by omega)
      have v3 : IntKind.i64.wrap ((q : Int) + 3) = (q : Int) + 3 := wrapB (by omega) (by omega)
      have u1 : IntKind.i64.wrap (2 * x1) = 2 * x1 := wrapB (by omega) (by omega)
      have u2 : IntKind.i64.wrap (4 * x2) = 4 * x2 := wrapB (by omega) (by omega)
      have u3 : IntKind.i64.wrap (8 * x3) = 8 * x3 := wrapB (by omega) (by omega)
      have s1 : IntKind.i64.wrap (x0 + 2 * x1) = x0 + 2 * x1 := wrapB (by omega) (by omega)
      have s2 : IntKind.i64.wrap (x0 + 2 * x1 + 4 * x2) = x0 + 2 * x1 + 4 * x2 := wrapB (by omega) (by omega)
      have s3 : IntKind.i64.wrap (x0 + 2 * x1 + 4 * x2 + 8 * x3) = x0 + 2 * x1 + 4 * x2 + 8 * x3 := wrapB (by omega) (by omega)
      have bal := below_alloc wr (.cells #[.int .i64 (x0 + 2 * x1 + 4 * x2 + 8 * x3)] 3)
      have bald : Below wr.heap.size wr (wr.alloc (.cells #[.int .i64 (x0 + 2 * x1 + 4 * x2 + 8 * x3)] 3)).drew := bal.drew
      have d0 := cell_on c0 bald
      have d1 := cell_on c1 bald
      have d2 := cell_on c2 bald
      have d3 := cell_on c3 bald
      have gd := (gr.alloc (.cells #[.int .i64 (x0 + 2 * x1 + 4 * x2 + 8 * x3)] 3)).drew
      have hbk : (wr.alloc (.cells #[.int .i64 (x0 + 2 * x1 + 4 * x2 + 8 * x3)] 3)).drew.heap[wr.heap.size]? = some (.cells #[.int .i64 (x0 + 2 * x1 + 4 * x2 + 8 * x3)] 3 (0, 0)) := heap_alloc_new wr _
      have hne : ∀ q', (Value.slice Au k cu).ownBlock = some q' → b ≠ q' := fun q' e e' => by have := (gr.own.lt q' e).1; omega
      generalize (words4 zs).take k = L at *
      clear gr zb
      go_upto_region 7 with (fail)
      go_region_held3 (fun w' => w'.cell? ⟨b, o + q, none⟩ = some (.int .i64 x0) ∧ w'.cell? ⟨b, o + (q + 1), none⟩ = some (.int .i64 x1) ∧ w'.cell? ⟨b, o + (q + 2), none⟩ = some (.int .i64 x2) ∧ w'.cell? ⟨b, o + (q + 3), none⟩ = some (.int .i64 x3)) (first | exact ⟨c0, c1, c2, c3⟩ | exact ⟨d0, d1, d2, d3⟩ | exact ⟨e0, e1, e2, e3⟩) (first
        | (refine app_step (e' := 3) elemInt (by rfl) _ _ (by rfl) w.heap.size (.slice Au k cu) k (intVals L) (by rfl) gd.own wr.heap.size 1 1 _ (0, 0) (by rfl) hbk (by rfl) (oneCell_i64 [_]) (by omega) (by unfold maxLen; omega) (by omega) (by simp; omega) (wr.heap.size + 1) (by simp) ?_; intro g8 e8 w8 ho8 hg8 hat8 hl8; (have bb : w8.heap[b]? = (wr.alloc (.cells #[.int .i64 (x0 + 2 * x1 + 4 * x2 + 8 * x3)] 3)).drew.heap[b]? := hg8.block b (World.block_lt_of_cell? _ _ d0) (fun e => hne b e.symm rfl)); (have e0 := (World.cell?_of_block (a := ⟨b, o + q, none⟩) bb).trans d0); (have e1 := (World.cell?_of_block (a := ⟨b, o + (q + 1), none⟩) bb).trans d1); (have e2 := (World.cell?_of_block (a := ⟨b, o + (q + 2), none⟩) bb).trans d2); (have e3 := (World.cell?_of_block (a := ⟨b, o + (q + 3), none⟩) bb).trans d3)))
      all_goals
        have H := Lib.hid (gd.app (ys := L ++ [x0 + 2 * x1 + 4 * x2 + 8 * x3]) ho8 hg8 (by simp [intVals]))
        clear ho8 hg8 hat8 hl8 bb e0 e1 e2 e3 gd hbk c0 c1 c2 c3 d0 d1 d2 d3
        have w4 : IntKind.i64.wrap ((q : Int) + 4) = (q : Int) + 4 := wrapB (by omega) (by omega)
        go_wp2_with fail
        go_roundw
        case rel => exact ⟨k + 1, by omega, by rw [show (k + 1) * 4 = q + 4 by omega]; go_num, by rw [HT.out]; exact H.out⟩
        case measure => simp [intOf]; omega
    · obtain rfl : q = n := by omega
      rw [show (words4 zs).take k = words4 zs from List.take_of_length_le (by rw [WL.out, HL.out]; omega)] at gr
      have hd := gr.done
      obtain ⟨A', m', c', he, hl, ho, hb⟩ := hd
      injection he with he
      subst he
      have O := Lib.hid (And.intro ho.any hb)
      clear gr ho hl hb
      go_wp2_with fail
      go_ret
      exact ⟨_, _, _, rfl, O.out.1, O.out.2⟩
end Go.Proofs.Ytklekabjhehopaa
