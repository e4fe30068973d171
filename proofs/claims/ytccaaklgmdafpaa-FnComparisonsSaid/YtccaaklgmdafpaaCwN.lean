/- Circuit builders in plain numbers: what the words' circuits compute. No condition. -/
import Derived.Test.YtccaaklgmdafpaaProg
import Derived.Test.YtccaaklgmdafpaaCwM
import Derived.Test.YtccaaklgmdafpaaCwO
namespace Go.Proofs.Ytccaaklgmdafpaa
open Go Go.RowKit
section
variable {z bs : List Int} {n n' : Nat} {us ws xs ys z' : List Int} {u x y t : Int}
/-- The bits of a list, inverted. -/
def inv1 (l : List Int) : List Int := l.map fun b => 1 - b
theorem inv1_bit {l : List Int} (h : allBit l) : allBit (inv1 l) := fun x hx => by
  obtain ⟨b, hb, rfl⟩ := List.mem_map.1 hx
  have := h b hb
  unfold isBit at *
  omega
theorem numB_inv (l : List Int) : numB (inv1 l) = 2 ^ l.length - 1 - numB l := by
  induction l with
  | nil => simp [inv1, numB]
  | cons a l ih =>
    have e : inv1 (a :: l) = (1 - a) :: inv1 l := rfl
    rw [e]
    simp only [numB, ih, List.length_cons, Int.pow_succ]
    omega
theorem notsAt_val (hz : z.length = n * 3) (hW : Vals z bs n ws ys) : ∀ m, m ≤ ws.length → Step bs z n (notsAt z ws m).1 (n + m) ∧ Vals (notsAt z ws m).1 bs (n + m) (notsAt z ws m).2 (inv1 (ys.take m)) := by
  intro m
  induction m with
  | zero => exact fun _ => ⟨Step.refl bs hz, Vals.nil _ _ _⟩
  | succ m ih =>
    intro h
    obtain ⟨st, hv⟩ := ih (by omega)
    have k : m < ys.length := by rw [← hW.1]; omega
    refine ⟨st.put _ _ _, ?_⟩
    rw [take_snoc k, show inv1 (ys.take m ++ [ys.getD m 0]) = inv1 (ys.take m) ++ [1 - ys.getD m 0] by simp [inv1]]
    exact (hv.step ((Step.refl bs st.len).put 5 (ws.getD m 0) 0)).snoc (((hW.step st).2 m (by omega)).not st.len)
/-- The first m bits of a number. -/
def bitsL (v : Int) (m : Nat) : List Int := (List.range m).map fun i => v / 2 ^ i % 2
theorem bitsL_succ (v : Int) (m : Nat) : bitsL v (m + 1) = bitsL v m ++ [v / 2 ^ m % 2] := by simp [bitsL, List.range_succ]
theorem bitsL_length (v : Int) (m : Nat) : (bitsL v m).length = m := by simp [bitsL]
theorem bitsL_bit (v : Int) (m : Nat) : allBit (bitsL v m) := fun x hx => by
  obtain ⟨i, _, rfl⟩ := List.mem_map.1 hx
  unfold isBit
  omega
theorem numB_bitsL (v : Int) (m : Nat) : numB (bitsL v m) = v % 2 ^ m := by
  induction m with
  | zero => simp [bitsL, numB, Int.emod_one]
  | succ m ih =>
    rw [bitsL_succ, numB_snoc, bitsL_length, ih, Int.pow_succ]
    have h1 := Int.emod_add_mul_ediv v (2 ^ m)
    have h2 := Int.emod_add_mul_ediv (v / 2 ^ m) 2
    have h3 := Int.emod_add_mul_ediv v (2 ^ m * 2)
    have h4 : v / (2 ^ m * 2) = v / 2 ^ m / 2 := by rw [Int.ediv_ediv_of_nonneg (Int.le_of_lt (Int.pow_pos (by omega)))]
    rw [h4] at h3
    generalize v / 2 ^ m / 2 = q at *
    generalize v / 2 ^ m % 2 = r at *
    generalize v / 2 ^ m = d at *
    generalize (2 : Int) ^ m = P at *
    generalize v % P = a at *
    generalize v % (P * 2) = b at *
    grind
theorem constAt_val (v : Int) (hz : z.length = n * 3) : ∀ m, Step bs z n (constAt z v m).1 (n + m) ∧ Vals (constAt z v m).1 bs (n + m) (constAt z v m).2 (bitsL v m) := by
  intro m
  induction m with
  | zero => exact ⟨Step.refl bs hz, Vals.nil _ _ _⟩
  | succ m ih =>
    obtain ⟨st, hv⟩ := ih
    refine ⟨st.put _ _ _, ?_⟩
    rw [bitsL_succ]
    exact (hv.step ((Step.refl bs st.len).put 2 _ 0)).snoc (Val.const _ st.len)
/-- The carry of full adders. -/
theorem carryAt_val (hz : z.length = n * 3) (hU : Vals z bs n us xs) (hW : Vals z bs n ws ys) (hx : allBit xs) (hy : allBit ys) : ∀ m, m ≤ us.length → m ≤ ws.length →
    Step bs z n (carryAt z us ws m).1 (n + 1 + 5 * m) ∧ ∃ s c : Int, 0 ≤ s ∧ s < 2 ^ m ∧ isBit c ∧ Val (carryAt z us ws m).1 bs (n + 1 + 5 * m) (carryAt z us ws m).2 c ∧ s + 2 ^ m * c = numB (xs.take m) + numB (ys.take m) + 1 := by
  intro m
  induction m with
  | zero => exact fun _ _ => ⟨(Step.refl bs hz).put 2 1 0, 0, 1, Int.le_refl _, by simp, by unfold isBit; omega, Val.const 1 hz, by simp [numB]⟩
  | succ m ih =>
    intro h1 h2
    obtain ⟨st, s, c, hs0, hs1, hc, hcv, he⟩ := ih (by omega) (by omega)
    obtain ⟨s5, v1, v2⟩ := full_val st.len ((hU.step st).2 m (by omega)) ((hW.step st).2 m (by omega)) hcv (hx.at_ m) (hy.at_ m) hc
    have hxm := hx.at_ m
    have hym := hy.at_ m
    have k1 : m < xs.length := by rw [← hU.1]; omega
    have k2 : m < ys.length := by rw [← hW.1]; omega
    have e2 : (xs.getD m 0 + ys.getD m 0 + c) % 2 + 2 * ((xs.getD m 0 + ys.getD m 0 + c) / 2) = xs.getD m 0 + ys.getD m 0 + c := by omega
    have hP : (0 : Int) < 2 ^ m := Int.pow_pos (by omega)
    have hr : (xs.getD m 0 + ys.getD m 0 + c) % 2 = 0 ∨ (xs.getD m 0 + ys.getD m 0 + c) % 2 = 1 := by omega
    refine ⟨st.trans s5, s + 2 ^ m * ((xs.getD m 0 + ys.getD m 0 + c) % 2), (xs.getD m 0 + ys.getD m 0 + c) / 2, ?_, ?_, by unfold isBit at *; omega, v2, ?_⟩
    · rcases hr with e | e <;> rw [e] <;> omega
    · rw [Int.pow_succ]; rcases hr with e | e <;> rw [e] <;> omega
    · rw [take_snoc k1, take_snoc k2, numB_snoc, numB_snoc, List.length_take, List.length_take, Nat.min_eq_left (by omega), Nat.min_eq_left (by omega), Int.pow_succ]
      generalize (xs.getD m 0 + ys.getD m 0 + c) % 2 = r at *
      generalize (xs.getD m 0 + ys.getD m 0 + c) / 2 = q at *
      generalize xs.getD m 0 = a at *
      generalize ys.getD m 0 = b at *
      generalize (2 : Int) ^ m = P at *
      clear ih hcv v1 v2 s5 st hr
      grind
theorem allBit.take {l : List Int} (h : allBit l) (k : Nat) : allBit (l.take k) := fun x hx => h x (List.mem_of_mem_take hx)
theorem Vals.four (h : Vals z bs n us xs) (k : us.length = 4) : xs.take 4 = xs ∧ xs.length = 4 := ⟨List.take_of_length_le (by rw [← h.1, k]; omega), by rw [← h.1, k]⟩
/-- A difference of words. -/
theorem sub_val (hz : z.length = n * 3) (hU : Vals z bs n us xs) (hW : Vals z bs n ws ys) (hx : allBit xs) (hy : allBit ys) (lu : us.length = 4) (lw : ws.length = 4) :
    Step bs z n (sumA (notsAt z ws 4).1 us (notsAt z ws 4).2 1 3).1 (n + 4 + 1 + 5 * 3 + 1 + 1) ∧ ∃ ss : List Int, ss.length = 4 ∧ allBit ss ∧ Vals (sumA (notsAt z ws 4).1 us (notsAt z ws 4).2 1 3).1 bs (n + 4 + 1 + 5 * 3 + 1 + 1) (sumA (notsAt z ws 4).1 us (notsAt z ws 4).2 1 3).2 ss ∧ numB ss = (numB xs - numB ys) % 16 := by
  obtain ⟨s1, v1⟩ := notsAt_val hz hW 4 (by omega)
  obtain ⟨e1, e2⟩ := hW.four lw
  rw [e1] at v1
  have ln : (notsAt z ws 4).2.length = 4 := by rw [v1.1]; simp [inv1, e2]
  obtain ⟨s2, ss, hl, hs, hv, he⟩ := sumA_val s1.len (hU.step s1) v1 hx (inv1_bit hy) (f := 1) (by unfold isBit; omega) lu ln
  refine ⟨s1.trans s2, ss, hl, hs, hv, ?_⟩
  rw [he, numB_inv, e2]
  omega
/-- Comparing words. -/
theorem less_val (hz : z.length = n * 3) (hU : Vals z bs n us xs) (hW : Vals z bs n ws ys) (hx : allBit xs) (hy : allBit ys) (lu : us.length = 4) (lw : ws.length = 4) :
    Step bs z n (lessA z us ws).1 (n + 4 + 1 + 5 * 4 + 1) ∧ Val (lessA z us ws).1 bs (n + 4 + 1 + 5 * 4 + 1) (lessA z us ws).2 (if numB xs < numB ys then 1 else 0) := by
  obtain ⟨s1, v1⟩ := notsAt_val hz hW 4 (by omega)
  obtain ⟨e1, e2⟩ := hW.four lw
  obtain ⟨e3, e4⟩ := hU.four lu
  rw [e1] at v1
  have ln : (notsAt z ws 4).2.length = 4 := by rw [v1.1]; simp [inv1, e2]
  obtain ⟨s2, s, c, hs0, hs1, hc, hv, he⟩ := carryAt_val s1.len (hU.step s1) v1 hx (inv1_bit hy) 4 (by omega) (by omega)
  have v3 := hv.not s2.len
  refine ⟨s1.trans (s2.put _ _ _), v3.is ?_⟩
  have e5 : (inv1 ys).take 4 = inv1 ys := List.take_of_length_le (by simp [inv1, e2])
  rw [e3, e5, numB_inv, e2] at he
  have h1 := numB_range hx
  have h2 := numB_range hy
  rw [e4] at h1
  rw [e2] at h2
  rcases hc.or with rfl | rfl
  · rw [if_pos (by omega)]; rfl
  · rw [if_neg (by omega)]; rfl
/-- Where bits are equal. -/
def eqL (xs ys : List Int) (m : Nat) : List Int := (List.range m).map fun i => if xs.getD i 0 = ys.getD i 0 then 1 else 0
theorem eqL_succ (xs ys : List Int) (m : Nat) : eqL xs ys (m + 1) = eqL xs ys m ++ [if xs.getD m 0 = ys.getD m 0 then 1 else 0] := by simp [eqL, List.range_succ]
theorem eqL_at (xs ys : List Int) {m i : Nat} (h : i < m) : (eqL xs ys m).getD i 0 = if xs.getD i 0 = ys.getD i 0 then 1 else 0 := by simp [eqL, List.getD_eq_getElem?_getD, h]
theorem xnorAt_val (hz : z.length = n * 3) (hU : Vals z bs n us xs) (hW : Vals z bs n ws ys) : ∀ m, m ≤ us.length → m ≤ ws.length → Step bs z n (xnorAt z us ws m).1 (n + 2 * m) ∧ Vals (xnorAt z us ws m).1 bs (n + 2 * m) (xnorAt z us ws m).2 (eqL xs ys m) := by
  intro m
  induction m with
  | zero => exact fun _ _ => ⟨Step.refl bs hz, Vals.nil _ _ _⟩
  | succ m ih =>
    intro h1 h2
    obtain ⟨st, hv⟩ := ih (by omega) (by omega)
    have s1 := (Step.refl bs st.len).put 3 (us.getD m 0) (ws.getD m 0)
    have v1 := ((hU.step st).2 m (by omega)).xor ((hW.step st).2 m (by omega)) st.len
    have s2 := s1.put 5 (nG (xnorAt z us ws m).1) 0
    refine ⟨st.trans s2, ?_⟩
    rw [eqL_succ]
    exact (hv.step s2).snoc ((v1.not s1.len).is (by split <;> rfl))
/-- Whether the first m + 1 bits are equal. -/
def eqTo (xs ys : List Int) : Nat → Int
  | 0 => if xs.getD 0 0 = ys.getD 0 0 then 1 else 0
  | m + 1 => eqTo xs ys m * if xs.getD (m + 1) 0 = ys.getD (m + 1) 0 then 1 else 0
theorem andAt_val (hz : z.length = n * 3) {k : Nat} (hU : Vals z bs n us (eqL xs ys k)) : ∀ m, m < k → Step bs z n (andAt z us m).1 (n + m) ∧ Val (andAt z us m).1 bs (n + m) (andAt z us m).2 (eqTo xs ys m) := by
  have hl : us.length = k := by rw [hU.1]; simp [eqL]
  intro m
  induction m with
  | zero => exact fun h => ⟨Step.refl bs hz, (hU.2 0 (by omega)).is (eqL_at xs ys h)⟩
  | succ m ih =>
    intro h
    obtain ⟨st, hv⟩ := ih (by omega)
    exact ⟨st.put _ _ _, hv.and (((hU.step st).2 (m + 1) (by omega)).is (eqL_at xs ys h)) st.len⟩
theorem eqTo_four {xs ys : List Int} (h1 : xs.length = 4) (h2 : ys.length = 4) : eqTo xs ys 3 = if xs = ys then 1 else 0 := by
  match xs, ys, h1, h2 with
  | [a, b, c, d], [a', b', c', d'], _, _ =>
    simp only [eqTo, List.getD_cons_zero, List.getD_cons_succ, List.cons.injEq, and_true]
    by_cases e1 : a = a' <;> by_cases e2 : b = b' <;> by_cases e3 : c = c' <;> by_cases e4 : d = d' <;> simp [e1, e2, e3, e4]
/-- Words that are equal. -/
theorem equal_val (hz : z.length = n * 3) (hU : Vals z bs n us xs) (hW : Vals z bs n ws ys) (lu : us.length = 4) (lw : ws.length = 4) :
    Step bs z n (equalA z us ws).1 (n + 2 * 4 + 3) ∧ Val (equalA z us ws).1 bs (n + 2 * 4 + 3) (equalA z us ws).2 (if xs = ys then 1 else 0) := by
  obtain ⟨s1, v1⟩ := xnorAt_val hz hU hW 4 (by omega) (by omega)
  obtain ⟨s2, v2⟩ := andAt_val s1.len v1 3 (by omega)
  exact ⟨s1.trans s2, v2.is (eqTo_four (hU.four lu).2 (hW.four lw).2)⟩
/-- The word that is chosen. -/
theorem muxAt_val {s c : Int} (hz : z.length = n * 3) (hs : Val z bs n s c) (hc : isBit c) (hU : Vals z bs n us xs) (hW : Vals z bs n ws ys) (hx : allBit xs) (hy : allBit ys) : ∀ m, m ≤ us.length → m ≤ ws.length →
    Step bs z n (muxAt z s us ws m).1 (n + 3 * m) ∧ Vals (muxAt z s us ws m).1 bs (n + 3 * m) (muxAt z s us ws m).2 (if c = 1 then xs.take m else ys.take m) := by
  intro m
  induction m with
  | zero => exact fun _ _ => ⟨Step.refl bs hz, by simp only [List.take_zero, ite_self]; exact Vals.nil _ _ _⟩
  | succ m ih =>
    intro h1 h2
    obtain ⟨st, hv⟩ := ih (by omega) (by omega)
    have k1 : m < xs.length := by rw [← hU.1]; omega
    have k2 : m < ys.length := by rw [← hW.1]; omega
    have s1 := (Step.refl bs st.len).put 3 (us.getD m 0) (ws.getD m 0)
    have v1 := ((hU.step st).2 m (by omega)).xor ((hW.step st).2 m (by omega)) st.len
    have s2 := s1.put 4 s (nG (muxAt z s us ws m).1)
    have v2 := (s1.keep _ _ (st.keep _ _ hs)).and v1 s1.len
    have s3 := s2.put 3 (nG (putG (muxAt z s us ws m).1 3 (us.getD m 0) (ws.getD m 0))) (ws.getD m 0)
    have v3 := v2.xor (s2.keep _ _ ((hW.step st).2 m (by omega))) s2.len
    have hxm := hx.at_ m
    have hym := hy.at_ m
    refine ⟨st.trans s3, ?_⟩
    rw [show (if c = 1 then xs.take (m + 1) else ys.take (m + 1)) = (if c = 1 then xs.take m else ys.take m) ++ [if c = 1 then xs.getD m 0 else ys.getD m 0] by rw [take_snoc k1, take_snoc k2]; split <;> rfl]
    refine (hv.step s3).snoc (v3.is ?_)
    rcases hc.or with e | e <;> rcases hxm.or with e' | e' <;> rcases hym.or with e3 | e3 <;> rw [e, e', e3] <;> decide
/-- One row of a product. -/
theorem prodAt_val {b y : Int} (hz : z.length = n * 3) (hb : Val z bs n b y) (hy : isBit y) (hU : Vals z bs n us xs) (hx : allBit xs) : ∀ m, m ≤ us.length →
    Step bs z n (prodAt z b us m).1 (n + m) ∧ ∃ ps : List Int, ps.length = m ∧ allBit ps ∧ Vals (prodAt z b us m).1 bs (n + m) (prodAt z b us m).2 ps ∧ numB ps = y * numB (xs.take m) := by
  intro m
  induction m with
  | zero => exact fun _ => ⟨Step.refl bs hz, [], rfl, fun x hx => by simp at hx, Vals.nil _ _ _, by simp [numB]⟩
  | succ m ih =>
    intro h
    obtain ⟨st, ps, hl, hp, hv, he⟩ := ih (by omega)
    have k : m < xs.length := by rw [← hU.1]; omega
    have hxm := hx.at_ m
    have v1 := (st.keep _ _ hb).and ((hU.step st).2 m (by omega)) st.len
    refine ⟨st.put _ _ _, ps ++ [y * xs.getD m 0], by simp [hl], hp.one ?_, (hv.step ((Step.refl bs st.len).put 4 b (us.getD m 0))).snoc v1, ?_⟩
    · rcases hy.or with e | e <;> rcases hxm.or with e' | e' <;> rw [e, e'] <;> decide
    · rw [numB_snoc, hl, take_snoc k, numB_snoc, List.length_take, Nat.min_eq_left (by omega), he]
      generalize (2 : Int) ^ m = P
      grind
theorem numB_split (l : List Int) (k : Nat) (h : k ≤ l.length) : numB l = numB (l.take k) + 2 ^ k * numB (l.drop k) := by
  induction l generalizing k with
  | nil => simp at h; subst h; simp [numB]
  | cons a l ih =>
    cases k with
    | zero => simp [numB]
    | succ k =>
      have := ih k (by simpa using h)
      simp only [List.take_succ_cons, List.drop_succ_cons, numB, Int.pow_succ]
      rw [this]
      generalize (2 : Int) ^ k = P
      grind
theorem Vals.drop (h : Vals z bs n us xs) (k : Nat) : Vals z bs n (us.drop k) (xs.drop k) := by
  refine ⟨by simp [h.1], fun i hi => ?_⟩
  have e := h.2 (k + i) (by simp at hi; omega)
  simpa [List.getD_eq_getElem?_getD, List.getElem?_drop] using e
theorem Vals.take (h : Vals z bs n us xs) (k : Nat) : Vals z bs n (us.take k) (xs.take k) := by
  refine ⟨by simp [h.1], fun i hi => ?_⟩
  have h1 : i < k ∧ i < us.length := by simp at hi; omega
  have e := h.2 i h1.2
  rw [List.getD_eq_getElem?_getD, List.getElem?_take_of_lt h1.1, ← List.getD_eq_getElem?_getD, List.getD_eq_getElem?_getD (l := xs.take k), List.getElem?_take_of_lt h1.1, ← List.getD_eq_getElem?_getD]
  exact e
theorem Vals.app {vs as' : List Int} (h : Vals z bs n us xs) (k : Vals z bs n vs as') : Vals z bs n (us ++ vs) (xs ++ as') := by
  refine ⟨by simp [h.1, k.1], fun i hi => ?_⟩
  rcases Nat.lt_or_ge i us.length with h1 | h1
  · rw [gD_left h1, gD_left (by rw [← h.1]; exact h1)]
    exact h.2 i h1
  · rw [gD_right h1, gD_right (by rw [← h.1]; exact h1), ← h.1]
    exact k.2 _ (by simp at hi; omega)
theorem allBit.app {l m : List Int} (h : allBit l) (k : allBit m) : allBit (l ++ m) := fun y hy => by
  rcases List.mem_append.1 hy with h1 | h1
  · exact h y h1
  · exact k y h1
theorem allBit.drop {l : List Int} (h : allBit l) (k : Nat) : allBit (l.drop k) := fun x hx => h x (List.mem_of_mem_drop hx)
theorem numB_app (l m : List Int) : numB (l ++ m) = numB l + 2 ^ l.length * numB m := by
  have h := numB_split (l ++ m) l.length (by simp)
  simpa using h
/-- A product of words. -/
theorem mulAt_val (hz : z.length = n * 3) (hU : Vals z bs n us xs) (hW : Vals z bs n ws ys) (hx : allBit xs) (hy : allBit ys) (lu : us.length = 4) (lw : ws.length = 4) : ∀ i, i ≤ 3 →
    Step bs z n (mulAt z us ws i).1 (n + mulN i) ∧ ∃ ss : List Int, ss.length = 4 ∧ allBit ss ∧ Vals (mulAt z us ws i).1 bs (n + mulN i) (mulAt z us ws i).2 ss ∧ numB ss = numB xs * numB (ys.take (i + 1)) % 16 := by
  obtain ⟨e1, e2⟩ := hU.four lu
  obtain ⟨e3, e4⟩ := hW.four lw
  have hxr := numB_range hx
  rw [e2] at hxr
  intro i
  induction i with
  | zero =>
    intro _
    obtain ⟨st, ps, hl, hp, hv, he⟩ := prodAt_val hz (hW.2 0 (by omega)) (hy.at_ 0) hU hx 4 (by omega)
    refine ⟨st, ps, hl, hp, hv, ?_⟩
    rw [he, e1, show ys.take (0 + 1) = [ys.getD 0 0] by rw [take_snoc (by omega)]; rfl]
    have := hy.at_ 0
    simp only [numB]
    rcases this.or with e | e <;> rw [e] <;> omega
  | succ i ih =>
    intro hi
    obtain ⟨st, ss, hl, hs, hv, he⟩ := ih (by omega)
    have hyb := hy.at_ (i + 1)
    obtain ⟨s1, ps, pl, hp, pv, pe⟩ := prodAt_val st.len ((hW.step st).2 (i + 1) (by omega)) hyb (hU.step st) hx (4 - (i + 1)) (by omega)
    have sv := hv.step s1
    have svl : (mulAt z us ws i).2.length = 4 := by rw [hv.1, hl]
    have pvl : (prodAt (mulAt z us ws i).1 (ws.getD (i + 1) 0) us (4 - (i + 1))).2.length = 4 - (i + 1) := by rw [pv.1, pl]
    obtain ⟨s2, hs2, hl2, hb2, hv2, he2⟩ := sumA_val s1.len (sv.drop (i + 1)) pv (hs.drop (i + 1)) hp (f := 0) (by unfold isBit; omega) (m := 3 - (i + 1)) (by rw [List.length_drop, svl]; omega) (by rw [pvl]; omega)
    rw [show n + mulN (i + 1) = n + mulN i + (4 - (i + 1)) + 1 + 5 * (3 - (i + 1)) + 1 + 1 by simp only [mulN]; omega]
    refine ⟨(st.trans s1).trans s2, ss.take (i + 1) ++ hs2, by rw [List.length_append, List.length_take, hl, hl2]; omega, (hs.take _).app hb2, ((sv.take (i + 1)).step s2).app hv2, ?_⟩
    rw [numB_app, List.length_take, hl, Nat.min_eq_left (by omega), he2, pe]
    have sp := numB_split ss (i + 1) (by omega)
    have xp := numB_split xs (4 - (i + 1)) (by omega)
    have yt : numB (ys.take (i + 1 + 1)) = numB (ys.take (i + 1)) + 2 ^ (i + 1) * ys.getD (i + 1) 0 := by
      rw [take_snoc (by omega), numB_snoc, List.length_take, Nat.min_eq_left (by omega)]
    have lr := numB_range (hs.take (i + 1))
    rw [List.length_take, hl, Nat.min_eq_left (by omega)] at lr
    rw [yt]
    have hq : numB xs * (numB (ys.take (i + 1)) + 2 ^ (i + 1) * ys.getD (i + 1) 0) % 16 = (numB ss + 2 ^ (i + 1) * (numB xs * ys.getD (i + 1) 0)) % 16 := by
      rw [he, show numB xs * (numB (ys.take (i + 1)) + 2 ^ (i + 1) * ys.getD (i + 1) 0) = numB xs * numB (ys.take (i + 1)) + 2 ^ (i + 1) * (numB xs * ys.getD (i + 1) 0) by grind]
      generalize numB xs * numB (ys.take (i + 1)) = a
      generalize 2 ^ (i + 1) * (numB xs * ys.getD (i + 1) 0) = b
      omega
    rw [hq, sp]
    have hi3 : i = 0 ∨ i = 1 ∨ i = 2 := by omega
    clear sv pv hv hv2 s1 s2 st ih hq he he2 pe sp yt hU hW
    generalize numB (ss.take (i + 1)) = L at *
    generalize numB (ss.drop (i + 1)) = H at *
    generalize hX : numB (xs.take (4 - (i + 1))) = X at *
    generalize hY : numB (xs.drop (4 - (i + 1))) = Y at *
    generalize numB xs = N at *
    rcases hi3 with rfl | rfl | rfl <;> rcases hyb.or with e | e <;> rw [e] <;> simp at * <;> omega
end
end Go.Proofs.Ytccaaklgmdafpaa
