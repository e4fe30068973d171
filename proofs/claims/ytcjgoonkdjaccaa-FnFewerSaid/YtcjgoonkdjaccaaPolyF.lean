/- Differences of neighbours, and the weights at 0, in plain numbers. No condition. -/
import Derived.Test.YtcjgoonkdjaccaaPolyN
namespace Go.Proofs.Ytcjgoonkdjaccaa
open Go Go.RowKit
/-- The difference of a polynomial: its value one further on, without its value. -/
def delP : List Int → List Int
  | [] => []
  | _ :: cs => match cs with
    | [] => []
    | d :: ds => addP (0 :: delP (d :: ds)) (addP (delP (d :: ds)) (d :: ds))
theorem delP_eval (cs : List Int) (x : Int) : evalZ (delP cs) x = evalZ cs (x + 1) - evalZ cs x := by
  induction cs with
  | nil => simp [delP, evalZ]
  | cons c cs ih =>
    cases cs with
    | nil => simp [delP, evalZ]
    | cons d ds =>
      show evalZ (addP (0 :: delP (d :: ds)) (addP (delP (d :: ds)) (d :: ds))) x = _
      rw [evalZ_add, evalZ_add, evalZ_cons, ih, evalZ_cons c, evalZ_cons c]
      generalize evalZ (d :: ds) (x + 1) = a
      generalize evalZ (d :: ds) x = b
      grind
theorem delP_length (cs : List Int) : (delP cs).length ≤ cs.length - 1 := by
  induction cs with
  | nil => simp [delP]
  | cons c cs ih =>
    cases cs with
    | nil => simp [delP]
    | cons d ds =>
      show (addP (0 :: delP (d :: ds)) (addP (delP (d :: ds)) (d :: ds))).length ≤ _
      simp only [List.length_cons] at ih ⊢
      refine addP_length _ _ _ (by simp only [List.length_cons]; omega) (addP_length _ _ _ (by omega) (by simp only [List.length_cons]; omega))
/-- A sequence's differences. -/
def dfF (f : Nat → Int) : Nat → Int := fun i => f (i + 1) - f i
def dfK (f : Nat → Int) : Nat → Nat → Int
  | 0 => f
  | k + 1 => dfK (dfF f) k
/-- Differences of differences: at the end as well as at the start. -/
theorem dfK_end (f : Nat → Int) (k : Nat) : dfK f (k + 1) = dfF (dfK f k) := by
  induction k generalizing f with
  | zero => rfl
  | succ k ih => show dfK (dfF f) (k + 1) = _; rw [ih]; rfl
theorem dfK_poly (cs : List Int) (k : Nat) (h : cs.length ≤ k) (i : Nat) : dfK (fun (j : Nat) => evalZ cs ((j : Int) + 1)) k i = 0 := by
  induction k generalizing cs with
  | zero =>
    have : cs = [] := List.eq_nil_of_length_eq_zero (by omega)
    subst this; rfl
  | succ k ih =>
    show dfK (dfF (fun (j : Nat) => evalZ cs ((j : Int) + 1))) k i = 0
    have e : dfF (fun (j : Nat) => evalZ cs ((j : Int) + 1)) = fun (j : Nat) => evalZ (delP cs) ((j : Int) + 1) := by
      funext j
      rw [delP_eval]
      show evalZ cs (((j + 1 : Nat) : Int) + 1) - evalZ cs ((j : Int) + 1) = _
      rw [Int.natCast_add]; rfl
    rw [e]
    exact ih (delP cs) (by have := delP_length cs; omega)
/-- A sequence up to n whose differences are all 0 and which begins with zeros is 0. -/
theorem df_zero {p : Int} : ∀ (k n : Nat) (f : Nat → Int), (∀ i, i + k < n → eqm p (dfK f k i) 0) → (∀ i, i < k → i < n → eqm p (f i) 0) → ∀ i, i < n → eqm p (f i) 0 := by
  intro k
  induction k with
  | zero => intro n f h _ i hi; exact h i (by omega)
  | succ k ih =>
    intro n f h h0 i hi
    have hd : ∀ j, j + 1 < n → eqm p (dfF f j) 0 := fun j hj => by
      refine ih (n - 1) (dfF f) (fun i hi => h i (by omega)) (fun i hi hn => ?_) j (by omega)
      have := (h0 (i + 1) (by omega) (by omega)).sub (h0 i (by omega) (by omega))
      simpa [dfF] using this
    induction i with
    | zero => exact h0 0 (by omega) hi
    | succ i ihi =>
      have := (hd i hi).add (ihi (by omega))
      simpa [dfF] using this
theorem dfK_eqm {p : Int} : ∀ (k n : Nat) (f g : Nat → Int), (∀ i, i < n → eqm p (f i) (g i)) → ∀ i, i + k < n → eqm p (dfK f k i) (dfK g k i) := by
  intro k
  induction k with
  | zero => intro n f g h i hi; exact h i (by omega)
  | succ k ih =>
    intro n f g h i hi
    exact ih (n - 1) (dfF f) (dfF g) (fun j hj => (h (j + 1) (by omega)).sub (h j (by omega))) i (by omega)
theorem dfK_sub (k : Nat) (f g : Nat → Int) (i : Nat) : dfK (fun j => f j - g j) k i = dfK f k i - dfK g k i := by
  induction k generalizing f g with
  | zero => rfl
  | succ k ih =>
    show dfK (dfF fun j => f j - g j) k i = _
    have e : dfF (fun j => f j - g j) = fun j => dfF f j - dfF g j := by funext j; simp only [dfF]; omega
    rw [e, ih]; rfl
/-- The differences of a list. -/
def diffL (p : Int) (l : List Int) : List Int := (List.range (l.length - 1)).map fun i => fsubI p (l.getD (i + 1) 0) (l.getD i 0)
theorem diffL_length (p : Int) (l : List Int) : (diffL p l).length = l.length - 1 := by simp [diffL]
theorem diffL_at (p : Int) {l : List Int} {i : Nat} (h : i < l.length - 1) : (diffL p l).getD i 0 = fsubI p (l.getD (i + 1) 0) (l.getD i 0) := by unfold diffL; rw [map_at h]
def diffN (p : Int) (l : List Int) (k : Nat) : List Int := (List.range k).map fun i => fsubI p (l.getD (i + 1) 0) (l.getD i 0)
theorem diffN_is (p : Int) (l : List Int) (k : Nat) (z : Int) (h : fsubI p (l.getD (k + 1) 0) (l.getD k 0) = z) : diffN p l (k + 1) = diffN p l k ++ [z] := by
  subst h; simp [diffN, List.range_succ]
theorem diffL_el {p : Int} {l : List Int} (h : allEl p l) : allEl p (diffL p l) := el_of h.1 fun i hi => by
  rw [diffL_length] at hi
  rw [diffL_at p hi]
  exact fsubI_el (isEl_at h (by omega)) (isEl_at h (by omega))
def diffK (p : Int) (l : List Int) : Nat → List Int
  | 0 => l
  | k + 1 => diffL p (diffK p l k)
theorem diffK_length (p : Int) (l : List Int) (k : Nat) : (diffK p l k).length = l.length - k := by
  induction k with
  | zero => rfl
  | succ k ih => show (diffL p _).length = _; rw [diffL_length, ih]; omega
theorem diffK_el {p : Int} {l : List Int} (h : allEl p l) (k : Nat) : allEl p (diffK p l k) := by
  induction k with
  | zero => exact h
  | succ k ih => exact diffL_el ih
theorem diffK_at {p : Int} {l : List Int} (h : allEl p l) (k i : Nat) (hi : i + k < l.length) : eqm p ((diffK p l k).getD i 0) (dfK (fun j => l.getD j 0) k i) := by
  induction k generalizing i with
  | zero => exact eqm.rfl_ p _
  | succ k ih =>
    have hk := diffK_length p l k
    show eqm p ((diffL p (diffK p l k)).getD i 0) _
    rw [diffL_at p (by omega), dfK_end]
    have ha := diffK_el h k
    refine (fsub_eqm (isEl_at ha (by omega)) (isEl_at ha (by omega))).trans ?_
    exact (ih (i + 1) (by omega)).sub (ih i (by omega))
/-- Shares are consistent just where their differences are all 0. -/
theorem consC_diff {p k : Int} {sh : List Int} (h : consOk p sh k) : consC p sh k ↔ ∀ x ∈ diffK p sh (consM k sh.length), x = 0 := by
  obtain ⟨hn, hp, he, hk⟩ := h
  have hok : consOk p sh k := ⟨hn, hp, he, hk⟩
  obtain ⟨m1, m2⟩ := consM_le k sh.length hk hn.1
  have hlen := diffK_length p sh (consM k sh.length)
  have hel := diffK_el he (consM k sh.length)
  generalize hm : consM k sh.length = m at *
  have key : (∀ x ∈ diffK p sh m, x = 0) ↔ ∀ i, i + m < sh.length → eqm p (dfK (fun j => sh.getD j 0) m i) 0 := by
    constructor
    · intro hz i hi
      have h1 := diffK_at he m i hi
      have h2 : (diffK p sh m).getD i 0 = 0 := by
        rw [List.getD_eq_getElem?_getD, List.getElem?_eq_getElem (by omega)]
        exact hz _ (List.getElem_mem _)
      rw [h2] at h1
      exact h1.symm
    · intro hz x hx
      obtain ⟨i, hi, rfl⟩ := List.mem_iff_getElem.1 hx
      have h1 := diffK_at he m i (by omega)
      have h2 : (diffK p sh m).getD i 0 = (diffK p sh m)[i] := by
        rw [List.getD_eq_getElem?_getD, List.getElem?_eq_getElem hi]; rfl
      rw [h2] at h1
      exact (h1.trans (hz i (by omega))).el (hel.2 _ (List.getElem_mem _)) (isEl_zero he.1)
  rw [key]
  constructor
  · intro hc i hi
    obtain ⟨F, hF, hFe⟩ := (consC_iff hok).1 hc
    rw [hm] at hF
    have h1 := dfK_eqm (p := p) m sh.length (fun j => evalZ F ((j : Int) + 1)) (fun j => sh.getD j 0) (fun i hi => hFe i hi) i hi
    rw [dfK_poly F m hF] at h1
    exact h1.symm
  · intro hz
    refine (consC_iff hok).2 ?_
    rw [hm]
    have pe : allEl p (ptsN 0 m) := ptsN_el he.1 (by omega)
    have ve := take_el he m
    have hl : (sh.take m).length = (ptsN 0 m).length := by rw [ptsN_length, List.length_take]; omega
    obtain ⟨F, hF, _, hFa⟩ := thruI_poly pe ve hl (ptsN_distinct 0 m)
    rw [ptsN_length] at hF hFa
    refine ⟨F, hF, fun i hi => ?_⟩
    have h0 := df_zero (p := p) m sh.length (fun j => evalZ F ((j : Int) + 1) - sh.getD j 0) (fun i hi => by
      rw [dfK_sub, dfK_poly F m hF]
      have := (eqm.rfl_ p 0).sub (hz i hi)
      simpa using this) (fun i hi hn => by
      have h1 := hFa i hi
      rw [ptsN_at hi, take_at hi] at h1
      have := h1.sub (eqm.rfl_ p (sh.getD i 0))
      simpa using this) i hi
    exact eqm_zero_sub h0
/-- The weight at 0, as the program has it: the first k factors. -/
def wzI (p : Int) (pts : List Int) (i : Nat) : Nat → Int
  | 0 => 1
  | k + 1 => if k = i then wzI p pts i k else fmulI p (wzI p pts i k) (fmulI p (pts.getD k 0) (finvI p (fsubI p (pts.getD k 0) (pts.getD i 0))))
theorem wzI_skip (p : Int) (pts : List Int) (i : Nat) : wzI p pts i (i + 1) = wzI p pts i i := by rw [wzI, if_pos rfl]
theorem wzI_next (p : Int) (pts : List Int) (i : Nat) {k : Nat} (h : k ≠ i) : wzI p pts i (k + 1) = fmulI p (wzI p pts i k) (fmulI p (pts.getD k 0) (finvI p (fsubI p (pts.getD k 0) (pts.getD i 0)))) := by rw [wzI, if_neg h]
/-- Both signs turned: the same quotient. -/
theorem quot_neg {p a b : Int} (ha : isEl p a) (hb : isEl p b) (hab : a ≠ b) : fmulI p (fsubI p 0 a) (finvI p (fsubI p b a)) = fmulI p a (finvI p (fsubI p a b)) := by
  have hz := isEl_zero ha.1
  have ne1 : fsubI p a b ≠ 0 := fun e => hab (by have h := field_sub ha hb; rw [e, fadd_comm, field_zero hb] at h; exact h.symm)
  have ne2 : fsubI p b a ≠ 0 := fun e => hab (by have h := field_sub hb ha; rw [e, fadd_comm, field_zero ha] at h; exact h)
  have e1 := fsubI_el ha hb
  have e2 := fsubI_el hb ha
  obtain ⟨_, _, i1, _⟩ := finvI_facts e1 ne1
  obtain ⟨_, _, _, i2⟩ := finvI_facts e2 ne2
  have hi1 := inv_el e1 ne1
  have hp := ha.range
  -- the inverse of b - a is the negative of that of a - b
  have hn : (- finvI p (fsubI p a b)) % p = finvI p (fsubI p b a) := by
    have hm := isEl_mod ha.1 (- finvI p (fsubI p a b))
    refine i2 _ hm.2.1 hm.2.2 ?_
    have h1 : eqm p (fsubI p b a * ((- finvI p (fsubI p a b)) % p)) (fsubI p a b * finvI p (fsubI p a b)) := by
      refine ((fsub_eqm hb ha).mul (eqm.mod p _)).trans ?_
      have := ((fsub_eqm ha hb).mul (eqm.rfl_ p (finvI p (fsubI p a b)))).symm
      rw [show (b - a) * -finvI p (fsubI p a b) = (a - b) * finvI p (fsubI p a b) by grind]
      exact this
    unfold eqm at h1
    rw [h1, i1]
  rw [← hn]
  refine eqm.el (p := p) ?_ (fmulI_el (fsubI_el hz ha) (isEl_mod ha.1 _)) (fmulI_el ha hi1)
  refine (fmul_eqm (fsubI_el hz ha) (isEl_mod ha.1 _)).trans (((fsub_eqm hz ha).mul (eqm.mod p _)).trans ?_)
  rw [show (0 - a) * -finvI p (fsubI p a b) = a * finvI p (fsubI p a b) by grind]
  exact (fmul_eqm ha hi1).symm
theorem wzI_el {p : Int} {pts : List Int} (hp : allEl p pts) (hd : distinct pts) {i : Nat} (hi : i < pts.length) : ∀ k, k ≤ pts.length → isEl p (wzI p pts i k) := by
  intro k
  induction k with
  | zero => intro _; exact isEl_one hp.1
  | succ k ih =>
    intro hk
    by_cases e : k = i
    · subst e; rw [wzI_skip]; exact ih (by omega)
    · rw [wzI_next _ _ _ e]
      obtain ⟨h1, h2⟩ := diff_el hp hd (show k < pts.length by omega) hi (Ne.symm e)
      exact fmulI_el (ih (by omega)) (fmulI_el (isEl_at hp (by omega)) (inv_el h1 h2))
theorem wzI_wI {p v : Int} {pts : List Int} (hp : allEl p pts) (hd : distinct pts) (hv : isEl p v) {i : Nat} (hi : i < pts.length) : ∀ k, k ≤ pts.length → wI p pts v (pts.getD i 0) i 0 k = fmulI p v (wzI p pts i k) := by
  intro k
  induction k with
  | zero => intro _; exact (field_one hv).symm
  | succ k ih =>
    intro hk
    by_cases e : k = i
    · subst e; rw [wI_skip, wzI_skip]; exact ih (by omega)
    · rw [wI_next _ _ _ _ _ _ e, wzI_next _ _ _ e, ih (by omega)]
      have ek := isEl_at hp (show k < pts.length by omega)
      have ei := isEl_at hp hi
      rw [quot_neg ek ei (hd.ne (by omega) hi e)]
      obtain ⟨h1, h2⟩ := diff_el hp hd (show k < pts.length by omega) hi (Ne.symm e)
      exact field_assoc hv (wzI_el hp hd hi k (by omega)) (fmulI_el ek (inv_el h1 h2))
/-- The sum as the program has it. -/
def opN (p : Int) (pts vals : List Int) : Nat → Int
  | 0 => 0
  | m + 1 => faddI p (opN p pts vals m) (fmulI p (vals.getD m 0) (wzI p pts m pts.length))
theorem opN_is {p : Int} {pts vals : List Int} (h : pointsOk p pts vals) : ∀ m, m ≤ pts.length → opN p pts vals m = thN p pts vals 0 m := by
  intro m
  induction m with
  | zero => intro _; rfl
  | succ m ih =>
    intro hm
    show faddI p _ _ = faddI p _ _
    rw [ih (by omega), wzI_wI h.2.2.1 h.2.2.2.2.1 (isEl_at h.2.2.2.1 (by have := h.2.1; omega)) (by omega) _ (Nat.le_refl _)]
theorem opN_open {p : Int} {pts vals : List Int} (h : pointsOk p pts vals) : opN p pts vals pts.length = openP p pts vals := by
  rw [opN_is h _ (Nat.le_refl _)]
  unfold openP
  rw [if_pos h]; rfl
end Go.Proofs.Ytcjgoonkdjaccaa
