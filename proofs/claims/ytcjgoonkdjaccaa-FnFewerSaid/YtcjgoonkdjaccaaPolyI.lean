/- Interpolation over a prime field in plain numbers. No condition. -/
import Derived.Test.YtcjgoonkdjaccaaPolyM
namespace Go.Proofs.Ytcjgoonkdjaccaa
open Go Go.RowKit
/-- The value of a polynomial by Horner's rule, reduced at each step. -/
def atI (p : Int) (cs : List Int) (x : Int) : Int := match cs with
  | [] => 0
  | c :: cs => (atI p cs x * x + c) % p
theorem atI_cons (p c : Int) (cs : List Int) (x : Int) : atI p (c :: cs) x = (atI p cs x * x + c) % p := rfl
theorem atI_eval (p : Int) (cs : List Int) (x : Int) : eqm p (atI p cs x) (evalZ cs x) := by
  induction cs with
  | nil => exact eqm.rfl_ p 0
  | cons c cs ih =>
    rw [atI_cons, evalZ_cons]
    refine (eqm.mod p _).trans ?_
    rw [Int.add_comm c, Int.mul_comm x]
    exact (ih.mul (eqm.rfl_ p x)).add (eqm.rfl_ p c)
theorem atI_el {p : Int} (hp : isP p) (cs : List Int) (x : Int) : isEl p (atI p cs x) := by
  cases cs with
  | nil => exact isEl_zero hp
  | cons c cs => rw [atI_cons]; exact isEl_mod hp _
theorem atI_is {p : Int} (hp : isP p) (cs : List Int) (x : Int) : atI p cs x = evalZ cs x % p :=
  ((atI_eval p cs x).trans (eqm.mod p _).symm).el (atI_el hp cs x) (isEl_mod hp _)
/-- One summand of the interpolation, with the first k factors. -/
def wI (p : Int) (pts : List Int) (v xi : Int) (i : Nat) (x : Int) : Nat → Int
  | 0 => v
  | k + 1 => if k = i then wI p pts v xi i x k else fmulI p (wI p pts v xi i x k) (fmulI p (fsubI p x (pts.getD k 0)) (finvI p (fsubI p xi (pts.getD k 0))))
theorem wI_skip (p : Int) (pts : List Int) (v xi : Int) (i : Nat) (x : Int) : wI p pts v xi i x (i + 1) = wI p pts v xi i x i := by
  rw [wI, if_pos rfl]
theorem wI_next (p : Int) (pts : List Int) (v xi : Int) (i : Nat) (x : Int) {k : Nat} (h : k ≠ i) : wI p pts v xi i x (k + 1) = fmulI p (wI p pts v xi i x k) (fmulI p (fsubI p x (pts.getD k 0)) (finvI p (fsubI p xi (pts.getD k 0)))) := by
  rw [wI, if_neg h]
/-- The interpolation: the first m summands. -/
def thN (p : Int) (pts vals : List Int) (x : Int) : Nat → Int
  | 0 => 0
  | m + 1 => faddI p (thN p pts vals x m) (wI p pts (vals.getD m 0) (pts.getD m 0) m x pts.length)
def thruI (p : Int) (pts vals : List Int) (x : Int) : Int := thN p pts vals x pts.length
/-- Points that differ. -/
def distinct (pts : List Int) : Prop := ∀ i j, i < j → j < pts.length → pts.getD i 0 ≠ pts.getD j 0
theorem distinct.ne {pts : List Int} (h : distinct pts) {i j : Nat} (hi : i < pts.length) (hj : j < pts.length) (hij : i ≠ j) : pts.getD i 0 ≠ pts.getD j 0 := by
  rcases Nat.lt_or_gt_of_ne hij with e | e
  · exact h i j e hj
  · exact fun k => h j i e hi k.symm
theorem diff_el {p : Int} {pts : List Int} (hp : allEl p pts) (hd : distinct pts) {i k : Nat} (hi : i < pts.length) (hk : k < pts.length) (hik : k ≠ i) : isEl p (fsubI p (pts.getD i 0) (pts.getD k 0)) ∧ fsubI p (pts.getD i 0) (pts.getD k 0) ≠ 0 := by
  have ei := isEl_at hp hi
  have ek := isEl_at hp hk
  refine ⟨fsubI_el ei ek, fun e => hd.ne hi hk (Ne.symm hik) ?_⟩
  have h := field_sub ei ek
  rw [e, fadd_comm, field_zero ek] at h
  exact h.symm
theorem inv_el {p a : Int} (h : isEl p a) (h0 : a ≠ 0) : isEl p (finvI p a) := by
  have := finvI_facts h h0
  exact ⟨h.1, by omega, this.2.1⟩
theorem wI_el {p v x : Int} {pts : List Int} (hp : allEl p pts) (hd : distinct pts) (hv : isEl p v) (hx : isEl p x) {i : Nat} (hi : i < pts.length) :
    ∀ k, k ≤ pts.length → isEl p (wI p pts v (pts.getD i 0) i x k) := by
  intro k
  induction k with
  | zero => intro _; exact hv
  | succ k ih =>
    intro hk
    by_cases e : k = i
    · subst e; rw [wI_skip]; exact ih (by omega)
    · rw [wI_next _ _ _ _ _ _ e]
      obtain ⟨h1, h2⟩ := diff_el hp hd hi (by omega : k < pts.length) e
      exact fmulI_el (ih (by omega)) (fmulI_el (fsubI_el hx (isEl_at hp (by omega))) (inv_el h1 h2))
theorem fmul_eqm {p a b : Int} (ha : isEl p a) (hb : isEl p b) : eqm p (fmulI p a b) (a * b) := by rw [fmulI_yes ha hb]; exact eqm.mod p _
theorem fsub_eqm {p a b : Int} (ha : isEl p a) (hb : isEl p b) : eqm p (fsubI p a b) (a - b) := by rw [fsubI_yes ha hb]; exact eqm.mod p _
theorem fadd_eqm {p a b : Int} (ha : isEl p a) (hb : isEl p b) : eqm p (faddI p a b) (a + b) := by rw [faddI_yes ha hb]; exact eqm.mod p _
/-- A polynomial times c * (X - a). -/
def linP (c a : Int) (cs : List Int) : List Int := addP (0 :: sclP c cs) (sclP (-(a * c)) cs)
theorem linP_eval (c a : Int) (cs : List Int) (x : Int) : evalZ (linP c a cs) x = evalZ cs x * ((x - a) * c) := by
  unfold linP
  rw [evalZ_add, evalZ_cons, evalZ_scl, evalZ_scl]
  generalize evalZ cs x = e
  grind
theorem linP_length (c a : Int) (cs : List Int) (m : Nat) (h : cs.length ≤ m) : (linP c a cs).length ≤ m + 1 :=
  addP_length _ _ _ (by simp [sclP_length]; omega) (by rw [sclP_length]; omega)
/-- A summand is a polynomial with at most as many coefficients as factors and one more. -/
theorem wI_poly {p v : Int} {pts : List Int} (hp : allEl p pts) (hd : distinct pts) (hv : isEl p v) {i : Nat} (hi : i < pts.length) :
    ∀ k, k ≤ pts.length → ∃ cs : List Int, cs.length ≤ (if i < k then k else k + 1) ∧ ∀ x, isEl p x → eqm p (wI p pts v (pts.getD i 0) i x k) (evalZ cs x) := by
  intro k
  induction k with
  | zero => intro _; exact ⟨[v], by simp, fun x _ => by show eqm p v (v + x * 0); simp [eqm.rfl_]⟩
  | succ k ih =>
    intro hk
    obtain ⟨cs, hl, hc⟩ := ih (by omega)
    by_cases e : k = i
    · subst e
      refine ⟨cs, ?_, fun x hx => by rw [wI_skip]; exact hc x hx⟩
      rw [if_neg (by omega)] at hl
      rw [if_pos (by omega)]
      exact hl
    · obtain ⟨h1, h2⟩ := diff_el hp hd hi (by omega : k < pts.length) e
      refine ⟨linP (finvI p (fsubI p (pts.getD i 0) (pts.getD k 0))) (pts.getD k 0) cs, ?_, fun x hx => ?_⟩
      · have := linP_length (finvI p (fsubI p (pts.getD i 0) (pts.getD k 0))) (pts.getD k 0) cs _ hl
        by_cases hik : i < k
        · rw [if_pos hik] at this; rw [if_pos (by omega)]; exact this
        · rw [if_neg hik] at this; rw [if_neg (by omega)]; exact this
      · rw [wI_next _ _ _ _ _ _ e, linP_eval]
        have ek := isEl_at hp (show k < pts.length by omega)
        have es := fsubI_el hx ek
        have ei := inv_el h1 h2
        refine (fmul_eqm (wI_el hp hd hv hx hi k (by omega)) (fmulI_el es ei)).trans ?_
        exact (hc x hx).mul ((fmul_eqm es ei).trans ((fsub_eqm hx ek).mul (eqm.rfl_ p _)))
theorem thN_el {p x : Int} {pts vals : List Int} (hp : allEl p pts) (hv : allEl p vals) (hl : vals.length = pts.length) (hd : distinct pts) (hx : isEl p x) : ∀ m, m ≤ pts.length → isEl p (thN p pts vals x m) := by
  intro m
  induction m with
  | zero => intro _; exact isEl_zero hp.1
  | succ m ih =>
    intro hm
    show isEl p (faddI p (thN p pts vals x m) _)
    exact faddI_el (ih (by omega)) (wI_el hp hd (isEl_at hv (by omega)) hx (by omega) _ (Nat.le_refl _))
theorem thN_poly {p : Int} {pts vals : List Int} (hp : allEl p pts) (hv : allEl p vals) (hl : vals.length = pts.length) (hd : distinct pts) :
    ∀ m, m ≤ pts.length → ∃ cs : List Int, cs.length ≤ pts.length ∧ ∀ x, isEl p x → eqm p (thN p pts vals x m) (evalZ cs x) := by
  intro m
  induction m with
  | zero => intro _; exact ⟨[], Nat.zero_le _, fun x _ => eqm.rfl_ p 0⟩
  | succ m ih =>
    intro hm
    obtain ⟨a, ha, hae⟩ := ih (by omega)
    obtain ⟨b, hb, hbe⟩ := wI_poly hp hd (isEl_at hv (show m < vals.length by omega)) (show m < pts.length by omega) pts.length (Nat.le_refl _)
    rw [if_pos (by omega)] at hb
    refine ⟨addP a b, addP_length _ _ _ ha hb, fun x hx => ?_⟩
    rw [evalZ_add]
    show eqm p (faddI p (thN p pts vals x m) _) _
    exact (fadd_eqm (thN_el hp hv hl hd hx m (by omega)) (wI_el hp hd (isEl_at hv (by omega)) hx (by omega) _ (Nat.le_refl _))).trans ((hae x hx).add (hbe x hx))
theorem fmul_zero_left {p b : Int} (hb : isEl p b) : fmulI p 0 b = 0 := by rw [fmulI_yes (isEl_zero hb.1) hb]; simp
theorem fmul_zero_right {p a : Int} (ha : isEl p a) : fmulI p a 0 = 0 := by rw [fmul_comm]; exact fmul_zero_left ha
theorem fsub_self {p a : Int} (ha : isEl p a) : fsubI p a a = 0 := by rw [fsubI_yes ha ha, Int.sub_self]; simp
/-- At another point a summand is zero, once its factor has come. -/
theorem wI_other {p v : Int} {pts : List Int} (hp : allEl p pts) (hd : distinct pts) (hv : isEl p v) {i j : Nat} (hi : i < pts.length) (hj : j < pts.length) (hij : j ≠ i) :
    ∀ k, j < k → k ≤ pts.length → wI p pts v (pts.getD i 0) i (pts.getD j 0) k = 0 := by
  have hx := isEl_at hp hj
  intro k
  induction k with
  | zero => intro h; omega
  | succ k ih =>
    intro h1 h2
    by_cases e : k = i
    · subst e; rw [wI_skip]; exact ih (by omega) (by omega)
    · rw [wI_next _ _ _ _ _ _ e]
      obtain ⟨h3, h4⟩ := diff_el hp hd hi (by omega : k < pts.length) e
      have ek := isEl_at hp (show k < pts.length by omega)
      by_cases ej : j = k
      · subst ej
        rw [fsub_self hx, fmul_zero_left (inv_el h3 h4), fmul_zero_right (wI_el hp hd hv hx hi _ (by omega))]
      · rw [ih (by omega) (by omega)]
        exact fmul_zero_left (fmulI_el (fsubI_el hx ek) (inv_el h3 h4))
/-- At its own point a summand is the value. -/
theorem wI_own {p v : Int} {pts : List Int} (hp : allEl p pts) (hd : distinct pts) (hv : isEl p v) {i : Nat} (hi : i < pts.length) :
    ∀ k, k ≤ pts.length → wI p pts v (pts.getD i 0) i (pts.getD i 0) k = v := by
  intro k
  induction k with
  | zero => intro _; rfl
  | succ k ih =>
    intro h2
    by_cases e : k = i
    · subst e; rw [wI_skip]; exact ih (by omega)
    · rw [wI_next _ _ _ _ _ _ e, ih (by omega)]
      obtain ⟨h3, h4⟩ := diff_el hp hd hi (by omega : k < pts.length) e
      have h5 : fmulI p (fsubI p (pts.getD i 0) (pts.getD k 0)) (finvI p (fsubI p (pts.getD i 0) (pts.getD k 0))) = 1 := by
        rw [fmulI_yes h3 (inv_el h3 h4)]; exact (finvI_facts h3 h4).2.2.1
      rw [h5, field_one hv]
theorem thN_at {p : Int} {pts vals : List Int} (hp : allEl p pts) (hv : allEl p vals) (hl : vals.length = pts.length) (hd : distinct pts) {j : Nat} (hj : j < pts.length) :
    ∀ m, m ≤ pts.length → thN p pts vals (pts.getD j 0) m = if j < m then vals.getD j 0 else 0 := by
  have ej := isEl_at hv (show j < vals.length by omega)
  intro m
  induction m with
  | zero => intro _; rfl
  | succ m ih =>
    intro hm
    show faddI p (thN p pts vals (pts.getD j 0) m) _ = _
    rw [ih (by omega)]
    by_cases e : j = m
    · subst e
      rw [if_neg (by omega), if_pos (by omega), wI_own hp hd ej hj _ (Nat.le_refl _), fadd_comm, field_zero ej]
    · rw [wI_other hp hd (isEl_at hv (by omega)) (by omega : m < pts.length) hj e _ hj (Nat.le_refl _)]
      by_cases hjm : j < m
      · rw [if_pos hjm, if_pos (by omega), field_zero ej]
      · rw [if_neg hjm, if_neg (by omega)]; exact field_zero (isEl_zero hp.1)
theorem thruI_el {p x : Int} {pts vals : List Int} (hp : allEl p pts) (hv : allEl p vals) (hl : vals.length = pts.length) (hd : distinct pts) (hx : isEl p x) : isEl p (thruI p pts vals x) :=
  thN_el hp hv hl hd hx _ (Nat.le_refl _)
theorem pairwise_of {p : Int} {pts : List Int} (hp : allEl p pts) (hd : distinct pts) : pts.Pairwise (fun a b => ¬ eqm p (b - a) 0) := by
  rw [List.pairwise_iff_getElem]
  intro i j hi hj hij e
  have h := (eqm_zero_sub e).el (hp.2 _ (List.getElem_mem hj)) (hp.2 _ (List.getElem_mem hi))
  have := hd i j hij hj
  rw [List.getD_eq_getElem?_getD, List.getD_eq_getElem?_getD, List.getElem?_eq_getElem hi, List.getElem?_eq_getElem hj] at this
  exact this h.symm
/-- The interpolation is the value of every polynomial that short which has the values. -/
theorem thruI_is {p x : Int} {pts vals F : List Int} (hp : allEl p pts) (hv : allEl p vals) (hl : vals.length = pts.length) (hd : distinct pts) (hF : F.length ≤ pts.length)
    (h : ∀ j, j < pts.length → eqm p (evalZ F (pts.getD j 0)) (vals.getD j 0)) (hx : isEl p x) : thruI p pts vals x = evalZ F x % p := by
  obtain ⟨cs, hc, hce⟩ := thN_poly hp hv hl hd pts.length (Nat.le_refl _)
  have hs := poly_same hp.1 hc hF (Nat.le_refl _) (pairwise_of hp hd) (fun r hr => by
    obtain ⟨j, hj, rfl⟩ := List.mem_iff_getElem.1 hr
    have e : pts[j] = pts.getD j 0 := by rw [List.getD_eq_getElem?_getD, List.getElem?_eq_getElem hj]; rfl
    rw [e]
    have ht := thN_at hp hv hl hd hj pts.length (Nat.le_refl _)
    rw [if_pos hj] at ht
    exact (hce _ (isEl_at hp hj)).symm.trans (by rw [ht]; exact (h j hj).symm)) x
  exact ((hce x hx).trans (hs.trans (eqm.mod p _).symm)).el (thruI_el hp hv hl hd hx) (isEl_mod hp.1 _)
/-- There is such a polynomial. -/
theorem thruI_poly {p : Int} {pts vals : List Int} (hp : allEl p pts) (hv : allEl p vals) (hl : vals.length = pts.length) (hd : distinct pts) :
    ∃ F : List Int, F.length ≤ pts.length ∧ (∀ x, isEl p x → thruI p pts vals x = evalZ F x % p) ∧ ∀ j, j < pts.length → eqm p (evalZ F (pts.getD j 0)) (vals.getD j 0) := by
  obtain ⟨cs, hc, hce⟩ := thN_poly hp hv hl hd pts.length (Nat.le_refl _)
  refine ⟨cs, hc, fun x hx => ((hce x hx).trans (eqm.mod p _).symm).el (thruI_el hp hv hl hd hx) (isEl_mod hp.1 _), fun j hj => ?_⟩
  have ht := thN_at hp hv hl hd hj pts.length (Nat.le_refl _)
  rw [if_pos hj] at ht
  have := hce _ (isEl_at hp hj)
  rw [ht] at this
  exact this.symm
end Go.Proofs.Ytcjgoonkdjaccaa
