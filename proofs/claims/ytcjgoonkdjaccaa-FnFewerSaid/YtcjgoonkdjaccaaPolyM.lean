/- Polynomials over a prime field in plain numbers: a polynomial with more roots than its degree is zero; interpolation. No condition. -/
import Derived.Test.YtcjgoonkdjaccaaShareN
namespace Go.Proofs.Ytcjgoonkdjaccaa
open Go Go.RowKit
/-- The numbers are the same modulo p. -/
def eqm (p a b : Int) : Prop := a % p = b % p
theorem eqm.rfl_ (p a : Int) : eqm p a a := rfl
theorem eqm.symm {p a b : Int} (h : eqm p a b) : eqm p b a := Eq.symm h
theorem eqm.trans {p a b c : Int} (h : eqm p a b) (k : eqm p b c) : eqm p a c := Eq.trans h k
theorem eqm.add {p a b c d : Int} (h : eqm p a b) (k : eqm p c d) : eqm p (a + c) (b + d) := by
  unfold eqm at *; rw [Int.add_emod, h, k, ← Int.add_emod]
theorem eqm.mul {p a b c d : Int} (h : eqm p a b) (k : eqm p c d) : eqm p (a * c) (b * d) := by
  unfold eqm at *; rw [Int.mul_emod, h, k, ← Int.mul_emod]
theorem eqm.sub {p a b c d : Int} (h : eqm p a b) (k : eqm p c d) : eqm p (a - c) (b - d) := by
  unfold eqm at *; rw [Int.sub_emod, h, k, ← Int.sub_emod]
theorem eqm.mod (p a : Int) : eqm p (a % p) a := Int.emod_emod_of_dvd _ (Int.dvd_refl p)
theorem eqm.el {p a b : Int} (h : eqm p a b) (ha : isEl p a) (hb : isEl p b) : a = b := by
  unfold eqm at h; rw [ha.mod, hb.mod] at h; exact h
theorem eqm_zero_sub {p a b : Int} (h : eqm p (a - b) 0) : eqm p a b := by
  have := h.add (eqm.rfl_ p b)
  simpa using this
theorem prime_mul {p : Int} (hp : isP p) {a b : Int} (h : eqm p (a * b) 0) (ha : ¬ eqm p a 0) : eqm p b 0 := by
  have ea : isEl p (a % p) := isEl_mod hp a
  have h0 : a % p ≠ 0 := fun e => ha (by unfold eqm; rw [e]; simp)
  obtain ⟨_, _, h1, _⟩ := finvI_facts ea h0
  generalize finvI p (a % p) = i at h1
  have h2 : eqm p (a * i) 1 := by
    have : eqm p (a % p * i) 1 := by unfold eqm; rw [h1]; have := hp.range; rw [Int.emod_eq_of_lt (by omega) (by omega)]
    exact (((eqm.mod p a).mul (eqm.rfl_ p i)).symm).trans this
  have h3 : eqm p (a * i * b) b := by have := h2.mul (eqm.rfl_ p b); simpa using this
  have h4 : eqm p (i * (a * b)) 0 := by have := (eqm.rfl_ p i).mul h; simpa using this
  have h5 : i * (a * b) = a * i * b := by rw [← Int.mul_assoc, Int.mul_comm i a]
  rw [h5] at h4
  exact h3.symm.trans h4
def evalZ : List Int → Int → Int
  | [], _ => 0
  | c :: cs, x => c + x * evalZ cs x
theorem evalZ_cons (c : Int) (cs : List Int) (x : Int) : evalZ (c :: cs) x = c + x * evalZ cs x := rfl
def addP : List Int → List Int → List Int
  | [], b => b
  | a, [] => a
  | x :: xs, y :: ys => (x + y) :: addP xs ys
def sclP (r : Int) (cs : List Int) : List Int := cs.map (r * ·)
theorem evalZ_add (a b : List Int) (x : Int) : evalZ (addP a b) x = evalZ a x + evalZ b x := by
  induction a generalizing b with
  | nil => simp [addP, evalZ]
  | cons c cs ih =>
    cases b with
    | nil => simp [addP, evalZ]
    | cons d ds =>
      show c + d + x * evalZ (addP cs ds) x = c + x * evalZ cs x + (d + x * evalZ ds x)
      rw [ih, Int.mul_add]; omega
theorem evalZ_scl (r : Int) (a : List Int) (x : Int) : evalZ (sclP r a) x = r * evalZ a x := by
  induction a with
  | nil => simp [sclP, evalZ]
  | cons c cs ih =>
    have ih' : evalZ (cs.map (r * ·)) x = r * evalZ cs x := ih
    show r * c + x * evalZ (cs.map (r * ·)) x = r * (c + x * evalZ cs x)
    rw [ih', Int.mul_add, Int.mul_left_comm]
theorem addP_length (a b : List Int) (m : Nat) (ha : a.length ≤ m) (hb : b.length ≤ m) : (addP a b).length ≤ m := by
  induction a generalizing b m with
  | nil => simpa [addP] using hb
  | cons c cs ih =>
    cases b with
    | nil => simpa [addP] using ha
    | cons d ds =>
      show (addP cs ds).length + 1 ≤ m
      have h1 : cs.length + 1 ≤ m := ha
      have h2 : ds.length + 1 ≤ m := hb
      have := ih ds (m - 1) (by omega) (by omega)
      omega
theorem sclP_length (r : Int) (a : List Int) : (sclP r a).length = a.length := by simp [sclP]
/-- The quotient by X - r. -/
def quoP (r : Int) : List Int → List Int
  | [] => []
  | _ :: cs => addP cs (sclP r (quoP r cs))
theorem quoP_length (r : Int) (cs : List Int) : (quoP r cs).length ≤ cs.length - 1 := by
  induction cs with
  | nil => simp [quoP]
  | cons c cs ih =>
    show (addP cs (sclP r (quoP r cs))).length ≤ cs.length
    exact addP_length _ _ _ (Nat.le_refl _) (by rw [sclP_length]; omega)
theorem quoP_eval (r : Int) (cs : List Int) (x : Int) : evalZ cs x = evalZ cs r + (x - r) * evalZ (quoP r cs) x := by
  induction cs with
  | nil => simp [quoP, evalZ]
  | cons c cs ih =>
    show c + x * evalZ cs x = c + r * evalZ cs r + (x - r) * evalZ (addP cs (sclP r (quoP r cs))) x
    rw [evalZ_add, evalZ_scl]
    generalize evalZ (quoP r cs) x = q at *
    generalize evalZ cs r = u at *
    rw [ih]
    grind
theorem roots {p : Int} (hp : isP p) : ∀ (m : Nat) (cs : List Int), cs.length ≤ m → ∀ rs : List Int, rs.length = m → rs.Pairwise (fun a b => ¬ eqm p (b - a) 0) → (∀ r ∈ rs, eqm p (evalZ cs r) 0) → ∀ x, eqm p (evalZ cs x) 0 := by
  intro m
  induction m with
  | zero =>
    intro cs hl _ _ _ _ x
    have : cs = [] := List.eq_nil_of_length_eq_zero (by omega)
    subst this
    exact eqm.rfl_ p 0
  | succ m ih =>
    intro cs hl rs hr hd h0 x
    cases rs with
    | nil => simp at hr
    | cons r rs =>
      obtain ⟨hd1, hd2⟩ := List.pairwise_cons.1 hd
      have hr0 := h0 r (by simp)
      have hq : ∀ s ∈ rs, eqm p (evalZ (quoP r cs) s) 0 := fun s hs => by
        refine prime_mul hp ?_ (hd1 s hs)
        have e := quoP_eval r cs s
        have h1 := h0 s (by simp [hs])
        rw [e] at h1
        have h2 := h1.sub hr0
        rw [show evalZ cs r + (s - r) * evalZ (quoP r cs) s - evalZ cs r = (s - r) * evalZ (quoP r cs) s by omega] at h2
        simpa using h2
      have hx := ih (quoP r cs) (by have := quoP_length r cs; omega) rs (by simpa using hr) hd2 hq x
      rw [quoP_eval r cs x]
      have h2 : eqm p ((x - r) * evalZ (quoP r cs) x) 0 := by have := (eqm.rfl_ p (x - r)).mul hx; simpa using this
      have := hr0.add h2
      simpa using this
/-- Two polynomials that agree at as many points as they have coefficients are the same. -/
theorem poly_same {p : Int} (hp : isP p) {m : Nat} {a b : List Int} (ha : a.length ≤ m) (hb : b.length ≤ m) {rs : List Int} (hr : m ≤ rs.length) (hd : rs.Pairwise (fun a b => ¬ eqm p (b - a) 0))
    (h : ∀ r ∈ rs, eqm p (evalZ a r) (evalZ b r)) (x : Int) : eqm p (evalZ a x) (evalZ b x) := by
  have e : ∀ y, evalZ (addP a (sclP (-1) b)) y = evalZ a y - evalZ b y := fun y => by rw [evalZ_add, evalZ_scl]; omega
  have hz := roots hp m (addP a (sclP (-1) b)) (addP_length _ _ _ ha (by rw [sclP_length]; exact hb)) (rs.take m) (by simp; omega) (hd.sublist (List.take_sublist m rs))
    (fun r hr => by
      rw [e]
      have := (h r (List.mem_of_mem_take hr)).sub (eqm.rfl_ p (evalZ b r))
      simpa using this) x
  rw [e] at hz
  exact eqm_zero_sub hz
end Go.Proofs.Ytcjgoonkdjaccaa
