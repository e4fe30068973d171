/- Polynomial shares in plain numbers. No condition. -/
import Derived.Test.YtcjgoonkdjaccaaPolyI
namespace Go.Proofs.Ytcjgoonkdjaccaa
open Go Go.RowKit
/-- The polynomial that is dealt: the value, and k drawn coefficients. -/
def polyS (p x s a : Int) (k : Nat) : List Int := x :: tlN s a p k
theorem polyS_length (p x s a : Int) (k : Nat) : (polyS p x s a k).length = k + 1 := by simp [polyS, tlN_length]
theorem polyS_zero {p x s a : Int} (hx : isEl p x) (k : Nat) : evalZ (polyS p x s a k) 0 % p = x := by
  unfold polyS
  rw [evalZ_cons, Int.zero_mul, Int.add_zero, hx.mod]
/-- The values at 1 to n. -/
def shN (p : Int) (F : List Int) (n : Nat) : List Int := (List.range n).map fun (i : Nat) => atI p F ((i : Int) + 1)
theorem shN_length (p : Int) (F : List Int) (n : Nat) : (shN p F n).length = n := by simp [shN]
theorem shN_at (p : Int) (F : List Int) {n i : Nat} (h : i < n) : (shN p F n).getD i 0 = atI p F ((i : Int) + 1) := by unfold shN; rw [map_at h]
theorem shN_is (p : Int) (F : List Int) (k : Nat) (z : Int) (h : atI p F ((k : Int) + 1) = z) : shN p F (k + 1) = shN p F k ++ [z] := by
  subst h; simp [shN, List.range_succ]
theorem shN_el {p : Int} (hp : isP p) (F : List Int) (n : Nat) : allEl p (shN p F n) := el_of hp fun i hi => by
  rw [shN_length] at hi
  rw [shN_at _ _ hi]
  exact atI_el hp F _
def spOk (p x n k s a : Int) : Prop := isEl p x ∧ (1 ≤ n ∧ n ≤ min 5 (p - 1)) ∧ (0 ≤ k ∧ k ≤ n - 1) ∧ isTape s a ∧ a ≤ 900000
instance (p x n k s a : Int) : Decidable (spOk p x n k s a) := by unfold spOk; infer_instance
def spI (p x n k s a : Int) : List Int := if spOk p x n k s a then shN p (polyS p x s a k.toNat) n.toNat else []
def spaI (p x n k s a : Int) : Int := if spOk p x n k s a then a + k else a
theorem spI_length (p x n k s a : Int) : (spI p x n k s a).length ≤ 5 := by
  unfold spI; split
  · rename_i h
    have := h.2.1
    rw [shN_length]; omega
  · exact Nat.zero_le _
/-- Successive points. -/
def ptsN (f m : Nat) : List Int := (List.range m).map fun i => ((f + i + 1 : Nat) : Int)
theorem ptsN_length (f m : Nat) : (ptsN f m).length = m := by simp [ptsN]
theorem ptsN_at {f m i : Nat} (h : i < m) : (ptsN f m).getD i 0 = ((f + i + 1 : Nat) : Int) := by unfold ptsN; rw [map_at h]
theorem ptsN_is (f m : Nat) : ptsN f (m + 1) = ptsN f m ++ [((f + m + 1 : Nat) : Int)] := by simp [ptsN, List.range_succ]
theorem ptsN_el {p : Int} (hp : isP p) {f m : Nat} (h : ((f + m : Nat) : Int) < p) : allEl p (ptsN f m) := el_of hp fun i hi => by
  rw [ptsN_length] at hi
  rw [ptsN_at hi]
  exact ⟨hp, by omega, by omega⟩
theorem ptsN_distinct (f m : Nat) : distinct (ptsN f m) := fun i j hij hj => by
  rw [ptsN_length] at hj
  rw [ptsN_at hj, ptsN_at (show i < m by omega)]
  omega
instance (pts : List Int) : Decidable (distinct pts) :=
  decidable_of_iff (∀ j, j < pts.length → ∀ i, i < j → pts.getD i 0 ≠ pts.getD j 0) ⟨fun h i j hij hj => h j hj i hij, fun h j hj i hij => h i j hij hj⟩
def pointsOk (p : Int) (pts vals : List Int) : Prop := (1 ≤ pts.length ∧ pts.length ≤ 5) ∧ vals.length = pts.length ∧ allEl p pts ∧ allEl p vals ∧ distinct pts ∧ ∀ j, j < pts.length → pts.getD j 0 ≠ 0
instance (p : Int) (pts vals : List Int) : Decidable (pointsOk p pts vals) := by unfold pointsOk; infer_instance
def openP (p : Int) (pts vals : List Int) : Int := if pointsOk p pts vals then thruI p pts vals 0 else -1
/-- Which first shares determine the polynomial. -/
def consM (k : Int) (n : Nat) : Nat := if (n : Int) ≤ k then n else (k + 1).toNat
def consOk (p : Int) (sh : List Int) (k : Int) : Prop := (1 ≤ sh.length ∧ sh.length ≤ 5) ∧ (sh.length : Int) < p ∧ allEl p sh ∧ 0 ≤ k
instance (p : Int) (sh : List Int) (k : Int) : Decidable (consOk p sh k) := by unfold consOk; infer_instance
def consC (p : Int) (sh : List Int) (k : Int) : Prop := consOk p sh k ∧ ∀ i, i < sh.length → consM k sh.length ≤ i → thruI p (ptsN 0 (consM k sh.length)) (sh.take (consM k sh.length)) ((i : Int) + 1) = sh.getD i 0
instance (p : Int) (sh : List Int) (k : Int) : Decidable (consC p sh k) := by unfold consC; infer_instance
theorem consM_le (k : Int) (n : Nat) (h : 0 ≤ k) (h1 : 1 ≤ n) : 1 ≤ consM k n ∧ consM k n ≤ n := by unfold consM; split <;> omega
theorem take_at {l : List Int} {m i : Nat} (h : i < m) : (l.take m).getD i 0 = l.getD i 0 := by
  rw [List.getD_eq_getElem?_getD, List.getElem?_take_of_lt h, ← List.getD_eq_getElem?_getD]
theorem take_el {p : Int} {l : List Int} (h : allEl p l) (m : Nat) : allEl p (l.take m) := ⟨h.1, fun x hx => h.2 x (List.mem_of_mem_take hx)⟩
/-- Shares are consistent just where a polynomial that short has them. -/
theorem consC_iff {p k : Int} {sh : List Int} (h : consOk p sh k) : consC p sh k ↔ ∃ F : List Int, F.length ≤ consM k sh.length ∧ ∀ i, i < sh.length → eqm p (evalZ F ((i : Int) + 1)) (sh.getD i 0) := by
  obtain ⟨hn, hp, he, hk⟩ := h
  obtain ⟨m1, m2⟩ := consM_le k sh.length hk hn.1
  have pe : allEl p (ptsN 0 (consM k sh.length)) := ptsN_el he.1 (by omega)
  have ve := take_el he (consM k sh.length)
  have hl : (sh.take (consM k sh.length)).length = (ptsN 0 (consM k sh.length)).length := by rw [ptsN_length, List.length_take]; omega
  have hd := ptsN_distinct 0 (consM k sh.length)
  have pl := ptsN_length 0 (consM k sh.length)
  constructor
  · intro hc
    obtain ⟨F, hF, hFe, hFa⟩ := thruI_poly pe ve hl hd
    refine ⟨F, by omega, fun i hi => ?_⟩
    by_cases him : i < consM k sh.length
    · have h1 := hFa i (by omega)
      rw [ptsN_at him, take_at him] at h1
      simpa using h1
    · have h1 := hc.2 i hi (by omega)
      rw [hFe _ ⟨he.1, by omega, by omega⟩] at h1
      have h2 := eqm.mod p (evalZ F ((i : Int) + 1))
      rw [h1] at h2
      exact h2.symm
  · rintro ⟨F, hF, hFe⟩
    refine ⟨⟨hn, hp, he, hk⟩, fun i hi him => ?_⟩
    have hx : isEl p ((i : Int) + 1) := ⟨he.1, by omega, by omega⟩
    rw [thruI_is pe ve hl hd (F := F) (by omega) (fun j hj => by
      rw [pl] at hj
      rw [ptsN_at hj, take_at hj]
      have := hFe j (by omega)
      simpa using this) hx]
    exact ((eqm.mod p _).trans (hFe i hi)).el (isEl_mod he.1 _) (isEl_at he hi)
/-- Dealt shares open to the value, whichever they are. -/
theorem open_shares {p x : Int} {F : List Int} (hp : isP p) (hx : evalZ F 0 % p = x) {pts vals : List Int} (h : pointsOk p pts vals) (hF : F.length ≤ pts.length)
    (hv : ∀ j, j < pts.length → vals.getD j 0 = atI p F (pts.getD j 0)) : openP p pts vals = x := by
  unfold openP
  rw [if_pos h, thruI_is h.2.2.1 h.2.2.2.1 h.2.1 h.2.2.2.2.1 hF (fun j hj => by rw [hv j hj]; exact (atI_eval p F _).symm) (isEl_zero hp), hx]
theorem cons_shares {p : Int} {F : List Int} {n : Nat} {k : Int} (h : consOk p (shN p F n) k) (hF : F.length ≤ consM k n) : consC p (shN p F n) k := by
  refine (consC_iff h).2 ⟨F, by rw [shN_length]; exact hF, fun i hi => ?_⟩
  rw [shN_length] at hi
  rw [shN_at _ _ hi]
  exact (atI_eval p F _).symm
/-- One wrong share is detected. -/
theorem cons_wrong {p k : Int} {F : List Int} {n i : Nat} {y : Int} (hk : 0 ≤ k) (hF : F.length ≤ (k + 1).toNat) (hn : k + 2 ≤ n) (hp : isP p) (hnp : (n : Int) < p) (hi : i < n) (hy : isEl p y) (hne : y ≠ atI p F ((i : Int) + 1)) :
    ¬ consC p ((shN p F n).set i y) k := by
  intro hc
  have hlen : ((shN p F n).set i y).length = n := by rw [List.length_set, shN_length]
  obtain ⟨G, hG, hGe⟩ := (consC_iff hc.1).1 hc
  rw [hlen] at hG hGe
  have hM : consM k n = (k + 1).toNat := by unfold consM; rw [if_neg (by omega)]
  rw [hM] at hG
  -- the points but the wrong one
  have hd : ((ptsN 0 n).eraseIdx i).Pairwise (fun a b => ¬ eqm p (b - a) 0) :=
    (pairwise_of (ptsN_el hp (by omega)) (ptsN_distinct 0 n)).sublist (List.eraseIdx_sublist _ _)
  have hs := poly_same hp hF hG (rs := (ptsN 0 n).eraseIdx i) (by rw [List.length_eraseIdx]; split <;> (rw [ptsN_length] at *; omega)) hd (fun r hr => by
    obtain ⟨j, hj, hji, e⟩ := List.mem_eraseIdx_iff_getElem.1 hr
    rw [ptsN_length] at hj
    have er : r = (j : Int) + 1 := by
      rw [← e]
      have := ptsN_at (f := 0) hj
      rw [List.getD_eq_getElem?_getD, List.getElem?_eq_getElem (by rw [ptsN_length]; exact hj)] at this
      simpa using this
    rw [er]
    have h1 := hGe j hj
    rw [List.getD_eq_getElem?_getD, List.getElem?_set_ne (Ne.symm hji), ← List.getD_eq_getElem?_getD, shN_at _ _ hj] at h1
    exact (atI_eval p F _).symm.trans h1.symm) ((i : Int) + 1)
  have h2 := hGe i hi
  have h3 : ((shN p F n).set i y).getD i 0 = y := by
    rw [List.getD_eq_getElem?_getD, List.getElem?_set_self (by rw [shN_length]; exact hi)]; rfl
  rw [h3] at h2
  exact hne ((h2.symm.trans (hs.symm.trans (atI_eval p F _).symm)).el hy (atI_el hp F _))
end Go.Proofs.Ytcjgoonkdjaccaa
