/- Circuit builders in plain numbers: gates are appended to a list of numbers, three a gate. No condition. And what goes with it. -/
import Derived.Test.YtbbdmgomcpmhpaaProg
import Derived.Test.YtbbdmgomcpmhpaaCirM
namespace Go.Proofs.Ytbbdmgomcpmhpaa
open Go Go.RowKit
/-- The wire of the next gate. -/
def nG (z : List Int) : Int := ((z.length / 3 : Nat) : Int)
def putG (z : List Int) (k a b : Int) : List Int := z ++ [k, a, b]
theorem putG_length {z : List Int} {n : Nat} (k a b : Int) (h : z.length = n * 3) : (putG z k a b).length = (n + 1) * 3 := by simp [putG, h]; omega
theorem nG_is {z : List Int} {n : Nat} (h : z.length = n * 3) : nG z = n := by simp [nG, h]
/-- A full adder: the gates, the sum, the next carry. -/
def fullA (z : List Int) (a b c : Int) : List Int × Int × Int :=
  let z1 := putG z 3 a c
  let z2 := putG z1 3 b c
  let z3 := putG z2 3 a (nG z1)
  let z4 := putG z3 4 (nG z) (nG z1)
  (putG z4 3 (nG z3) c, nG z2, nG z4)
/-- The full adders of the first i places: the gates, the sums, the carry. -/
def sumAt (z us bs : List Int) (first : Int) : Nat → List Int × List Int × Int
  | 0 => (putG z 2 first 0, [], nG z)
  | i + 1 =>
    let r := sumAt z us bs first i
    let f := fullA r.1 (us.getD i 0) (bs.getD i 0) r.2.2
    (f.1, r.2.1 ++ [f.2.1], f.2.2)
/-- The sum of two lists of n + 1 wires. -/
def sumA (z us bs : List Int) (first : Int) (n : Nat) : List Int × List Int :=
  let r := sumAt z us bs first n
  let z1 := putG r.1 3 (us.getD n 0) (bs.getD n 0)
  (putG z1 3 (nG r.1) r.2.2, r.2.1 ++ [nG z1])
def notsAt (z bs : List Int) : Nat → List Int × List Int
  | 0 => (z, [])
  | i + 1 =>
    let r := notsAt z bs i
    (putG r.1 5 (bs.getD i 0) 0, r.2 ++ [nG r.1])
def constAt (z : List Int) (n : Int) : Nat → List Int × List Int
  | 0 => (z, [])
  | i + 1 =>
    let r := constAt z n i
    (putG r.1 2 (n / 2 ^ i % 2) 0, r.2 ++ [nG r.1])
def carryAt (z us xs : List Int) : Nat → List Int × Int
  | 0 => (putG z 2 1 0, nG z)
  | i + 1 =>
    let r := carryAt z us xs i
    let f := fullA r.1 (us.getD i 0) (xs.getD i 0) r.2
    (f.1, f.2.2)
def lessA (z us bs : List Int) : List Int × Int :=
  let x := notsAt z bs 4
  let r := carryAt x.1 us x.2 4
  (putG r.1 5 r.2 0, nG r.1)
def xnorAt (z us bs : List Int) : Nat → List Int × List Int
  | 0 => (z, [])
  | i + 1 =>
    let r := xnorAt z us bs i
    let z1 := putG r.1 3 (us.getD i 0) (bs.getD i 0)
    (putG z1 5 (nG r.1) 0, r.2 ++ [nG z1])
def andAt (z xs : List Int) : Nat → List Int × Int
  | 0 => (z, xs.getD 0 0)
  | i + 1 =>
    let r := andAt z xs i
    (putG r.1 4 r.2 (xs.getD (i + 1) 0), nG r.1)
def equalA (z us bs : List Int) : List Int × Int :=
  let x := xnorAt z us bs 4
  andAt x.1 x.2 3
def muxAt (z : List Int) (s : Int) (us bs : List Int) : Nat → List Int × List Int
  | 0 => (z, [])
  | i + 1 =>
    let r := muxAt z s us bs i
    let z1 := putG r.1 3 (us.getD i 0) (bs.getD i 0)
    let z2 := putG z1 4 s (nG r.1)
    (putG z2 3 (nG z1) (bs.getD i 0), r.2 ++ [nG z2])
/-- The products of one wire b with the first k wires of a list. -/
def prodAt (z : List Int) (b : Int) (us : List Int) : Nat → List Int × List Int
  | 0 => (z, [])
  | k + 1 =>
    let r := prodAt z b us k
    (putG r.1 4 b (us.getD k 0), r.2 ++ [nG r.1])
def mulAt (z us bs : List Int) : Nat → List Int × List Int
  | 0 => prodAt z (bs.getD 0 0) us 4
  | i + 1 =>
    let r := mulAt z us bs i
    let p := prodAt r.1 (bs.getD (i + 1) 0) us (4 - (i + 1))
    let h := sumA p.1 (r.2.drop (i + 1)) p.2 0 (3 - (i + 1))
    (h.1, r.2.take (i + 1) ++ h.2)
/-- What every builder keeps: whole gates, valid ones, wires of theirs. -/
structure Built (z : List Int) (n : Nat) (z' : List Int) (m : Nat) : Prop where
  pre : ∃ y, z' = z ++ y
  len : z'.length = m * 3
  ok : gatesOk z' m
  le : n ≤ m
theorem Built.start {z : List Int} {n : Nat} (hz : z.length = n * 3) (h : gatesOk z n) : Built z n z n := ⟨⟨[], by simp⟩, hz, h, Nat.le_refl _⟩
theorem Built.put {z z' : List Int} {n m : Nat} {k a b : Int} (h : Built z n z' m) (hg : gateOk k a b m) : Built z n (putG z' k a b) (m + 1) := by
  obtain ⟨y, rfl⟩ := h.pre
  exact ⟨⟨y ++ [k, a, b], by simp [putG]⟩, putG_length k a b h.len, gatesOk_snoc h.len h.ok hg, by have := h.le; omega⟩
/-- In these gates the wire u has the value x. -/
def Val (z bs : List Int) (n : Nat) (u x : Int) : Prop := 0 ≤ u ∧ u < (n : Int) ∧ (wv z bs n).getD u.toNat 0 = x
section
variable {z bs : List Int} {n : Nat} {a b c u x y t : Int}
theorem wv_put (k a b : Int) (hz : z.length = n * 3) : wv (putG z k a b) bs (n + 1) = wv z bs n ++ [gval k a b (wv z bs n) bs] := by
  obtain ⟨e1, e2, e3⟩ := gate_last k a b hz
  unfold putG
  rw [wv, wv_left hz n (Nat.le_refl _), e1, e2, e3]
theorem Val.put (h : Val z bs n u x) (k a b : Int) (hz : z.length = n * 3) : Val (putG z k a b) bs (n + 1) u x := by
  refine ⟨h.1, by have := h.2.1; omega, ?_⟩
  rw [wv_put k a b hz, gD_left (by rw [wv_length]; have := h.1; have := h.2.1; omega)]
  exact h.2.2
theorem Val.new (k a b : Int) (hz : z.length = n * 3) : Val (putG z k a b) bs (n + 1) (nG z) (gval k a b (wv z bs n) bs) := by
  rw [nG_is hz]
  refine ⟨by omega, by omega, ?_⟩
  rw [wv_put k a b hz, gD_right (by rw [wv_length]; omega), wv_length]
  simp
theorem Val.is (h : Val z bs n u x) (e : x = y) : Val z bs n u y := e ▸ h
theorem Val.xor (ha : Val z bs n a x) (hb : Val z bs n b y) (hz : z.length = n * 3) : Val (putG z 3 a b) bs (n + 1) (nG z) (if x = y then 0 else 1) :=
  (Val.new 3 a b hz).is (by simp [gval]; simp only [← List.getD_eq_getElem?_getD, ha.2.2, hb.2.2])
theorem Val.and (ha : Val z bs n a x) (hb : Val z bs n b y) (hz : z.length = n * 3) : Val (putG z 4 a b) bs (n + 1) (nG z) (x * y) :=
  (Val.new 4 a b hz).is (by simp [gval]; simp only [← List.getD_eq_getElem?_getD, ha.2.2, hb.2.2])
theorem Val.not (ha : Val z bs n a x) (hz : z.length = n * 3) : Val (putG z 5 a 0) bs (n + 1) (nG z) (1 - x) :=
  (Val.new 5 a 0 hz).is (by simp [gval]; simp only [← List.getD_eq_getElem?_getD, ha.2.2])
theorem Val.const (x : Int) (hz : z.length = n * 3) : Val (putG z 2 x 0) bs (n + 1) (nG z) x := (Val.new 2 x 0 hz).is (by simp [gval])
/-- What a builder leaves: m gates more, and the wires that were there keep their values. -/
structure Step (bs z : List Int) (n : Nat) (z' : List Int) (n' : Nat) : Prop where
  len : z'.length = n' * 3
  keep : ∀ u x, Val z bs n u x → Val z' bs n' u x
theorem Step.refl (bs : List Int) (hz : z.length = n * 3) : Step bs z n z n := ⟨hz, fun _ _ h => h⟩
theorem Step.put {z0 : List Int} {n0 : Nat} (h : Step bs z0 n0 z n) (k a b : Int) : Step bs z0 n0 (putG z k a b) (n + 1) := ⟨putG_length k a b h.len, fun u x hu => (h.keep u x hu).put k a b h.len⟩
theorem Step.trans {z0 z1 : List Int} {n0 n1 : Nat} (h : Step bs z0 n0 z1 n1) (k : Step bs z1 n1 z n) : Step bs z0 n0 z n := ⟨k.len, fun u x hu => k.keep u x (h.keep u x hu)⟩
/-- A full adder adds. -/
theorem full_val (hz : z.length = n * 3) (ha : Val z bs n a x) (hb : Val z bs n b y) (hc : Val z bs n c t) (hx : isBit x) (hy : isBit y) (ht : isBit t) :
    Step bs z n (fullA z a b c).1 (n + 5) ∧ Val (fullA z a b c).1 bs (n + 5) (fullA z a b c).2.1 ((x + y + t) % 2) ∧ Val (fullA z a b c).1 bs (n + 5) (fullA z a b c).2.2 ((x + y + t) / 2) := by
  have s0 := Step.refl bs hz
  have s1 := s0.put 3 a c
  have v1 := ha.xor hc hz
  have s2 := s1.put 3 b c
  have v2 := (s1.keep _ _ hb).xor (s1.keep _ _ hc) s1.len
  have s3 := s2.put 3 a (nG (putG z 3 a c))
  have v3 := (s2.keep _ _ ha).xor v2 s2.len
  have s4 := s3.put 4 (nG z) (nG (putG z 3 a c))
  have w1 := (v1.put 3 b c s1.len).put 3 a (nG (putG z 3 a c)) s2.len
  have w2 := v2.put 3 a (nG (putG z 3 a c)) s2.len
  have v4 := w1.and w2 s3.len
  have v5 := v4.xor (s4.keep _ _ hc) s4.len
  refine ⟨s4.put _ _ _, ((v3.put 4 _ _ s3.len).put 3 _ _ s4.len).is ?_, v5.is ?_⟩
  · rcases hx.or with rfl | rfl <;> rcases hy.or with rfl | rfl <;> rcases ht.or with rfl | rfl <;> decide
  · rcases hx.or with rfl | rfl <;> rcases hy.or with rfl | rfl <;> rcases ht.or with rfl | rfl <;> decide
end
/-- The number that bits say. -/
def numB : List Int → Int
  | [] => 0
  | b :: l => b + 2 * numB l
theorem numB_snoc (l : List Int) (b : Int) : numB (l ++ [b]) = numB l + 2 ^ l.length * b := by
  induction l with
  | nil => simp [numB]
  | cons a l ih => simp only [List.cons_append, numB, ih, List.length_cons, Int.pow_succ]; grind
theorem numB_range {l : List Int} (h : allBit l) : 0 ≤ numB l ∧ numB l < 2 ^ l.length := by
  induction l with
  | nil => simp [numB]
  | cons a l ih =>
    have h1 := h a (by simp)
    have h2 := ih (fun x hx => h x (by simp [hx]))
    unfold isBit at h1
    simp only [numB, List.length_cons, Int.pow_succ]
    omega
theorem allBit.one {l : List Int} {b : Int} (h : allBit l) (hb : isBit b) : allBit (l ++ [b]) := fun y hy => by
  rcases List.mem_append.1 hy with h1 | h1
  · exact h y h1
  · simp at h1; subst h1; exact hb
/-- Wires and their values. -/
def Vals (z bs : List Int) (n : Nat) (us xs : List Int) : Prop := us.length = xs.length ∧ ∀ i, i < us.length → Val z bs n (us.getD i 0) (xs.getD i 0)
section
variable {z bs : List Int} {n n' : Nat} {us ws xs ys z' : List Int} {u x : Int}
theorem Vals.step (h : Vals z bs n us xs) (k : Step bs z n z' n') : Vals z' bs n' us xs := ⟨h.1, fun i hi => k.keep _ _ (h.2 i hi)⟩
theorem Vals.nil (z bs : List Int) (n : Nat) : Vals z bs n [] [] := ⟨rfl, fun i hi => by simp at hi⟩
theorem Vals.snoc (h : Vals z bs n us xs) (k : Val z bs n u x) : Vals z bs n (us ++ [u]) (xs ++ [x]) := by
  refine ⟨by simp [h.1], fun i hi => ?_⟩
  rcases Nat.lt_or_ge i us.length with h1 | h1
  · rw [gD_left h1, gD_left (by rw [← h.1]; exact h1)]
    exact h.2 i h1
  · have e : i = us.length := by simp at hi; omega
    subst e
    rw [gD_right (Nat.le_refl _), Nat.sub_self, h.1, gD_right (Nat.le_refl _), Nat.sub_self]
    exact k
theorem take_snoc {l : List Int} {k : Nat} (h : k < l.length) : l.take (k + 1) = l.take k ++ [l.getD k 0] := by
  rw [List.take_add_one, List.getD_eq_getElem?_getD, List.getElem?_eq_getElem h]
  rfl
/-- The full adders of the first places add. -/
theorem sumAt_val (hz : z.length = n * 3) (hU : Vals z bs n us xs) (hW : Vals z bs n ws ys) (hx : allBit xs) (hy : allBit ys) {f : Int} (hf : isBit f) : ∀ m, m ≤ us.length → m ≤ ws.length →
    Step bs z n (sumAt z us ws f m).1 (n + 1 + 5 * m) ∧ ∃ (ss : List Int) (c : Int), ss.length = m ∧ allBit ss ∧ isBit c ∧ Vals (sumAt z us ws f m).1 bs (n + 1 + 5 * m) (sumAt z us ws f m).2.1 ss ∧ Val (sumAt z us ws f m).1 bs (n + 1 + 5 * m) (sumAt z us ws f m).2.2 c ∧
      numB ss + 2 ^ m * c = numB (xs.take m) + numB (ys.take m) + f := by
  intro m
  induction m with
  | zero => exact fun _ _ => ⟨(Step.refl bs hz).put 2 f 0, [], f, rfl, fun x hx => by simp at hx, hf, Vals.nil _ _ _, Val.const f hz, by simp [numB]⟩
  | succ m ih =>
    intro h1 h2
    obtain ⟨st, ss, c, hl, hs, hc, hv, hcv, he⟩ := ih (by omega) (by omega)
    obtain ⟨s5, v1, v2⟩ := full_val st.len ((hU.step st).2 m (by omega)) ((hW.step st).2 m (by omega)) hcv (hx.at_ m) (hy.at_ m) hc
    have hxm := hx.at_ m
    have hym := hy.at_ m
    have k1 : m < xs.length := by rw [← hU.1]; omega
    have k2 : m < ys.length := by rw [← hW.1]; omega
    refine ⟨st.trans s5, ss ++ [(xs.getD m 0 + ys.getD m 0 + c) % 2], (xs.getD m 0 + ys.getD m 0 + c) / 2, by simp [hl], hs.one (by unfold isBit; omega), by unfold isBit at *; omega, (hv.step s5).snoc v1, v2, ?_⟩
    rw [numB_snoc, hl, take_snoc k1, take_snoc k2, numB_snoc, numB_snoc, List.length_take, List.length_take, Nat.min_eq_left (by omega), Nat.min_eq_left (by omega), Int.pow_succ]
    have e2 : (xs.getD m 0 + ys.getD m 0 + c) % 2 + 2 * ((xs.getD m 0 + ys.getD m 0 + c) / 2) = xs.getD m 0 + ys.getD m 0 + c := by omega
    generalize (xs.getD m 0 + ys.getD m 0 + c) % 2 = s at *
    generalize (xs.getD m 0 + ys.getD m 0 + c) / 2 = q at *
    generalize xs.getD m 0 = a at *
    generalize ys.getD m 0 = b at *
    generalize (2 : Int) ^ m = P at *
    clear ih hv hcv v1 v2 s5 st
    grind
/-- The sum of two lists of m + 1 wires. -/
theorem sumA_val (hz : z.length = n * 3) (hU : Vals z bs n us xs) (hW : Vals z bs n ws ys) (hx : allBit xs) (hy : allBit ys) {f : Int} (hf : isBit f) {m : Nat} (lu : us.length = m + 1) (lw : ws.length = m + 1) :
    Step bs z n (sumA z us ws f m).1 (n + 1 + 5 * m + 1 + 1) ∧ ∃ ss : List Int, ss.length = m + 1 ∧ allBit ss ∧ Vals (sumA z us ws f m).1 bs (n + 1 + 5 * m + 1 + 1) (sumA z us ws f m).2 ss ∧ numB ss = (numB xs + numB ys + f) % 2 ^ (m + 1) := by
  obtain ⟨st, ss, c, hl, hs, hc, hv, hcv, he⟩ := sumAt_val hz hU hW hx hy hf m (by omega) (by omega)
  have k1 : m < xs.length := by rw [← hU.1]; omega
  have k2 : m < ys.length := by rw [← hW.1]; omega
  have vx := (hU.step st).2 m (by omega)
  have vy := (hW.step st).2 m (by omega)
  have s1 := (Step.refl bs st.len).put 3 (us.getD m 0) (ws.getD m 0)
  have v1 := vx.xor vy st.len
  have s2 := s1.put 3 (nG (sumAt z us ws f m).1) (sumAt z us ws f m).2.2
  have v2 := v1.xor (s1.keep _ _ hcv) s1.len
  have hxm := hx.at_ m
  have hym := hy.at_ m
  have hb : (if (if xs.getD m 0 = ys.getD m 0 then (0 : Int) else 1) = c then (0 : Int) else 1) = (xs.getD m 0 + ys.getD m 0 + c) % 2 := by
    rcases hxm.or with e | e <;> rcases hym.or with e' | e' <;> rcases hc.or with e3 | e3 <;> rw [e, e', e3] <;> decide
  rw [hb] at v2
  have hbit : isBit ((xs.getD m 0 + ys.getD m 0 + c) % 2) := by unfold isBit; omega
  refine ⟨st.trans s2, ss ++ [(xs.getD m 0 + ys.getD m 0 + c) % 2], by simp [hl], hs.one hbit, (hv.step s2).snoc v2, ?_⟩
  have tx : xs = xs.take m ++ [xs.getD m 0] := by rw [← take_snoc k1, List.take_of_length_le (by rw [← hU.1]; omega)]
  have ty : ys = ys.take m ++ [ys.getD m 0] := by rw [← take_snoc k2, List.take_of_length_le (by rw [← hW.1]; omega)]
  have nx : numB xs = numB (xs.take m) + 2 ^ m * xs.getD m 0 := by
    have h := numB_snoc (xs.take m) (xs.getD m 0)
    rw [← tx, List.length_take, Nat.min_eq_left (by omega)] at h
    exact h
  have ny : numB ys = numB (ys.take m) + 2 ^ m * ys.getD m 0 := by
    have h := numB_snoc (ys.take m) (ys.getD m 0)
    rw [← ty, List.length_take, Nat.min_eq_left (by omega)] at h
    exact h
  have hr := numB_range (hs.one hbit)
  rw [List.length_append, hl] at hr
  have hfin : numB xs + numB ys + f = numB (ss ++ [(xs.getD m 0 + ys.getD m 0 + c) % 2]) + 2 ^ (m + 1) * ((xs.getD m 0 + ys.getD m 0 + c) / 2) := by
    rw [numB_snoc, hl, nx, ny, Int.pow_succ]
    have e2 : (xs.getD m 0 + ys.getD m 0 + c) % 2 + 2 * ((xs.getD m 0 + ys.getD m 0 + c) / 2) = xs.getD m 0 + ys.getD m 0 + c := by omega
    generalize (xs.getD m 0 + ys.getD m 0 + c) % 2 = s at *
    generalize (xs.getD m 0 + ys.getD m 0 + c) / 2 = q at *
    generalize xs.getD m 0 = a at *
    generalize ys.getD m 0 = b at *
    generalize (2 : Int) ^ m = P at *
    clear hv hcv v1 v2 s1 s2 st hr tx ty nx ny
    grind
  rw [hfin, Int.add_mul_emod_self_left]
  exact (Int.emod_eq_of_lt hr.1 (by simpa using hr.2)).symm
end
end Go.Proofs.Ytbbdmgomcpmhpaa

namespace Go.Proofs.Ytbbdmgomcpmhpaa
open Go Go.RowKit
/-- What a builder leaves: gates behind those that there were, valid ones, k and gates among them. -/
structure Grw (z : List Int) (n : Nat) (z' : List Int) (n' k : Nat) : Prop where
  len : z'.length = n' * 3
  pre : ∃ y, z' = z ++ y
  le : n ≤ n'
  ok : gatesOk z n → gatesOk z' n'
  and_ : cnt z' 4 n' = cnt z 4 n + k
/-- A wire of n gates. -/
def Wr (n : Nat) (u : Int) : Prop := 0 ≤ u ∧ u < (n : Int)
instance (n : Nat) (u : Int) : Decidable (Wr n u) := by unfold Wr; infer_instance
def Wrs (n : Nat) (us : List Int) : Prop := ∀ i, i < us.length → Wr n (us.getD i 0)
section
variable {z z' z1 : List Int} {n n' n1 k k' : Nat} {a b c f u : Int} {us ws : List Int}
theorem Wr.mono (h : Wr n u) (e : n ≤ n') : Wr n' u := ⟨h.1, by have := h.2; omega⟩
theorem Wrs.mono (h : Wrs n us) (e : n ≤ n') : Wrs n' us := fun i hi => (h i hi).mono e
theorem Wrs.nil (n : Nat) : Wrs n [] := fun i hi => by simp at hi
theorem Wrs.snoc (h : Wrs n us) (hu : Wr n u) : Wrs n (us ++ [u]) := fun i hi => by
  rcases Nat.lt_or_ge i us.length with h1 | h1
  · rw [gD_left h1]; exact h i h1
  · have e : i = us.length := by simp at hi; omega
    subst e
    rw [gD_right (Nat.le_refl _), Nat.sub_self]
    exact hu
theorem Wrs.app (h : Wrs n us) (k : Wrs n ws) : Wrs n (us ++ ws) := fun i hi => by
  rcases Nat.lt_or_ge i us.length with h1 | h1
  · rw [gD_left h1]; exact h i h1
  · rw [gD_right h1]; exact k _ (by simp at hi; omega)
theorem Wrs.take (h : Wrs n us) (k : Nat) : Wrs n (us.take k) := fun i hi => by
  have h1 : i < k ∧ i < us.length := by simp at hi; omega
  rw [List.getD_eq_getElem?_getD, List.getElem?_take_of_lt h1.1, ← List.getD_eq_getElem?_getD]
  exact h i h1.2
theorem Wrs.drop (h : Wrs n us) (k : Nat) : Wrs n (us.drop k) := fun i hi => by
  have e := h (k + i) (by simp at hi; omega)
  simpa [List.getD_eq_getElem?_getD, List.getElem?_drop] using e
theorem Wrs.mem (h : Wrs n us) {x : Int} (hx : x ∈ us) : Wr n x := by
  obtain ⟨i, hi, e⟩ := mem_gD (d := 0) hx
  rw [← e]; exact h i hi
theorem Wrs.ok (h : Wrs n us) : wiresOk us n := fun _ hx => h.mem hx
theorem nG_wr (hz : z.length = n * 3) : Wr (n + 1) (nG z) := by rw [nG_is hz]; exact ⟨by omega, by omega⟩
theorem Grw.refl (hz : z.length = n * 3) : Grw z n z n 0 := ⟨hz, ⟨[], by simp⟩, Nat.le_refl _, id, rfl⟩
theorem Grw.trans (h : Grw z n z1 n1 k) (g : Grw z1 n1 z' n' k') : Grw z n z' n' (k + k') := by
  obtain ⟨y, e⟩ := h.pre
  obtain ⟨y', e'⟩ := g.pre
  exact ⟨g.len, ⟨y ++ y', by rw [e', e, List.append_assoc]⟩, Nat.le_trans h.le g.le, fun x => g.ok (h.ok x), by rw [g.and_, h.and_]; omega⟩
theorem Grw.is (h : Grw z n z' n' k) (e : k = k') : Grw z n z' n' k' := e ▸ h
theorem Grw.put (h : Grw z n z' n' k) {q : Int} (hg : gateOk q a b n') : Grw z n (putG z' q a b) (n' + 1) (k + if q = 4 then 1 else 0) := by
  obtain ⟨y, e⟩ := h.pre
  obtain ⟨e1, _, _⟩ := gate_last q a b h.len
  refine ⟨putG_length q a b h.len, ⟨y ++ [q, a, b], by simp [putG, e]⟩, by have := h.le; omega, fun x => gatesOk_snoc h.len (h.ok x) hg, ?_⟩
  unfold putG
  rw [cnt, cnt_left h.len n' (Nat.le_refl _), e1, h.and_, Nat.add_assoc]
theorem gok_const (h : isBit a) : gateOk 2 a 0 n := .inr (.inl ⟨rfl, h, rfl⟩)
theorem gok_xor (ha : Wr n a) (hb : Wr n b) : gateOk 3 a b n := .inr (.inr (.inl ⟨.inl rfl, ha, hb⟩))
theorem gok_and (ha : Wr n a) (hb : Wr n b) : gateOk 4 a b n := .inr (.inr (.inl ⟨.inr rfl, ha, hb⟩))
theorem gok_not (ha : Wr n a) : gateOk 5 a 0 n := .inr (.inr (.inr ⟨rfl, ha, rfl⟩))
theorem full_grw (hz : z.length = n * 3) (ha : Wr n a) (hb : Wr n b) (hc : Wr n c) : Grw z n (fullA z a b c).1 (n + 5) 1 ∧ Wr (n + 5) (fullA z a b c).2.1 ∧ Wr (n + 5) (fullA z a b c).2.2 := by
  have g1 := (Grw.refl hz).put (gok_xor ha hc)
  have x1 := nG_wr hz
  have g2 := g1.put (gok_xor (hb.mono g1.le) (hc.mono g1.le))
  have x2 := nG_wr g1.len
  have g3 := g2.put (gok_xor (ha.mono g2.le) x2)
  have x3 := nG_wr g2.len
  have g4 := g3.put (gok_and (x1.mono (by omega)) (x2.mono (by omega)))
  have x4 := nG_wr g3.len
  have g5 := g4.put (gok_xor x4 (hc.mono g4.le))
  exact ⟨g5.is rfl, x3.mono (by omega), nG_wr g4.len⟩
theorem sumAt_grw (hz : z.length = n * 3) (hU : Wrs n us) (hW : Wrs n ws) (hf : isBit f) : ∀ m, m ≤ us.length → m ≤ ws.length →
    Grw z n (sumAt z us ws f m).1 (n + 1 + 5 * m) m ∧ (sumAt z us ws f m).2.1.length = m ∧ Wrs (n + 1 + 5 * m) (sumAt z us ws f m).2.1 ∧ Wr (n + 1 + 5 * m) (sumAt z us ws f m).2.2 := by
  intro m
  induction m with
  | zero => exact fun _ _ => ⟨((Grw.refl hz).put (gok_const hf)).is rfl, rfl, Wrs.nil _, nG_wr hz⟩
  | succ m ih =>
    intro h1 h2
    obtain ⟨g, hl, hs, hc⟩ := ih (by omega) (by omega)
    obtain ⟨g2, v1, v2⟩ := full_grw g.len ((hU m (by omega)).mono g.le) ((hW m (by omega)).mono g.le) hc
    exact ⟨(g.trans g2).is rfl, by simp [sumAt, hl], (hs.mono (by omega)).snoc v1, v2⟩
theorem sumA_grw (hz : z.length = n * 3) (hU : Wrs n us) (hW : Wrs n ws) (hf : isBit f) {m : Nat} (lu : us.length = m + 1) (lw : ws.length = m + 1) :
    Grw z n (sumA z us ws f m).1 (n + 1 + 5 * m + 1 + 1) m ∧ (sumA z us ws f m).2.length = m + 1 ∧ Wrs (n + 1 + 5 * m + 1 + 1) (sumA z us ws f m).2 := by
  obtain ⟨g, hl, hs, hc⟩ := sumAt_grw hz hU hW hf m (by omega) (by omega)
  have g1 := g.put (gok_xor ((hU m (by omega)).mono g.le) ((hW m (by omega)).mono g.le))
  have g2 := g1.put (gok_xor (nG_wr g.len) (hc.mono (by omega)))
  exact ⟨g2.is rfl, by simp [sumA, hl], (hs.mono (by omega)).snoc (nG_wr g1.len)⟩
theorem notsAt_grw (hz : z.length = n * 3) (hW : Wrs n ws) : ∀ m, m ≤ ws.length → Grw z n (notsAt z ws m).1 (n + m) 0 ∧ (notsAt z ws m).2.length = m ∧ Wrs (n + m) (notsAt z ws m).2 := by
  intro m
  induction m with
  | zero => exact fun _ => ⟨Grw.refl hz, rfl, Wrs.nil _⟩
  | succ m ih =>
    intro h
    obtain ⟨g, hl, hs⟩ := ih (by omega)
    exact ⟨(g.put (gok_not ((hW m (by omega)).mono g.le))).is rfl, by simp [notsAt, hl], (hs.mono (by omega)).snoc (nG_wr g.len)⟩
theorem constAt_grw (v : Int) (hz : z.length = n * 3) : ∀ m, Grw z n (constAt z v m).1 (n + m) 0 ∧ (constAt z v m).2.length = m ∧ Wrs (n + m) (constAt z v m).2 := by
  intro m
  induction m with
  | zero => exact ⟨Grw.refl hz, rfl, Wrs.nil _⟩
  | succ m ih =>
    obtain ⟨g, hl, hs⟩ := ih
    exact ⟨(g.put (gok_const (by unfold isBit; omega))).is rfl, by simp [constAt, hl], (hs.mono (by omega)).snoc (nG_wr g.len)⟩
theorem carryAt_grw (hz : z.length = n * 3) (hU : Wrs n us) (hW : Wrs n ws) : ∀ m, m ≤ us.length → m ≤ ws.length → Grw z n (carryAt z us ws m).1 (n + 1 + 5 * m) m ∧ Wr (n + 1 + 5 * m) (carryAt z us ws m).2 := by
  intro m
  induction m with
  | zero => exact fun _ _ => ⟨((Grw.refl hz).put (gok_const (by unfold isBit; omega))).is rfl, nG_wr hz⟩
  | succ m ih =>
    intro h1 h2
    obtain ⟨g, hc⟩ := ih (by omega) (by omega)
    obtain ⟨g2, v1, v2⟩ := full_grw g.len ((hU m (by omega)).mono g.le) ((hW m (by omega)).mono g.le) hc
    exact ⟨(g.trans g2).is rfl, v2⟩
theorem lessA_grw (hz : z.length = n * 3) (hU : Wrs n us) (hW : Wrs n ws) (lu : us.length = 4) (lw : ws.length = 4) : Grw z n (lessA z us ws).1 (n + 4 + 1 + 5 * 4 + 1) 4 ∧ Wr (n + 4 + 1 + 5 * 4 + 1) (lessA z us ws).2 := by
  obtain ⟨g, hl, hs⟩ := notsAt_grw hz hW 4 (by omega)
  obtain ⟨g2, hc⟩ := carryAt_grw g.len (hU.mono g.le) hs 4 (by omega) (by omega)
  exact ⟨((g.trans g2).put (gok_not hc)).is rfl, nG_wr g2.len⟩
theorem xnorAt_grw (hz : z.length = n * 3) (hU : Wrs n us) (hW : Wrs n ws) : ∀ m, m ≤ us.length → m ≤ ws.length → Grw z n (xnorAt z us ws m).1 (n + 2 * m) 0 ∧ (xnorAt z us ws m).2.length = m ∧ Wrs (n + 2 * m) (xnorAt z us ws m).2 := by
  intro m
  induction m with
  | zero => exact fun _ _ => ⟨Grw.refl hz, rfl, Wrs.nil _⟩
  | succ m ih =>
    intro h1 h2
    obtain ⟨g, hl, hs⟩ := ih (by omega) (by omega)
    have g1 := g.put (gok_xor ((hU m (by omega)).mono g.le) ((hW m (by omega)).mono g.le))
    exact ⟨(g1.put (gok_not (nG_wr g.len))).is rfl, by simp [xnorAt, hl], (hs.mono (by omega)).snoc (nG_wr g1.len)⟩
theorem andAt_grw (hz : z.length = n * 3) (hU : Wrs n us) : ∀ m, m < us.length → Grw z n (andAt z us m).1 (n + m) m ∧ Wr (n + m) (andAt z us m).2 := by
  intro m
  induction m with
  | zero => exact fun h => ⟨Grw.refl hz, hU 0 h⟩
  | succ m ih =>
    intro h
    obtain ⟨g, hc⟩ := ih (by omega)
    exact ⟨(g.put (gok_and hc ((hU (m + 1) h).mono g.le))).is rfl, nG_wr g.len⟩
theorem equalA_grw (hz : z.length = n * 3) (hU : Wrs n us) (hW : Wrs n ws) (lu : us.length = 4) (lw : ws.length = 4) : Grw z n (equalA z us ws).1 (n + 2 * 4 + 3) 3 ∧ Wr (n + 2 * 4 + 3) (equalA z us ws).2 := by
  obtain ⟨g, hl, hs⟩ := xnorAt_grw hz hU hW 4 (by omega) (by omega)
  obtain ⟨g2, hc⟩ := andAt_grw g.len hs 3 (by omega)
  exact ⟨(g.trans g2).is rfl, hc⟩
theorem muxAt_grw {s : Int} (hz : z.length = n * 3) (hs : Wr n s) (hU : Wrs n us) (hW : Wrs n ws) : ∀ m, m ≤ us.length → m ≤ ws.length → Grw z n (muxAt z s us ws m).1 (n + 3 * m) m ∧ (muxAt z s us ws m).2.length = m ∧ Wrs (n + 3 * m) (muxAt z s us ws m).2 := by
  intro m
  induction m with
  | zero => exact fun _ _ => ⟨Grw.refl hz, rfl, Wrs.nil _⟩
  | succ m ih =>
    intro h1 h2
    obtain ⟨g, hl, hq⟩ := ih (by omega) (by omega)
    have g1 := g.put (gok_xor ((hU m (by omega)).mono g.le) ((hW m (by omega)).mono g.le))
    have g2 := g1.put (gok_and (hs.mono g1.le) (nG_wr g.len))
    exact ⟨(g2.put (gok_xor (nG_wr g1.len) ((hW m (by omega)).mono g2.le))).is rfl, by simp [muxAt, hl], (hq.mono (by omega)).snoc (nG_wr g2.len)⟩
theorem prodAt_grw (hz : z.length = n * 3) (hb : Wr n b) (hU : Wrs n us) : ∀ m, m ≤ us.length → Grw z n (prodAt z b us m).1 (n + m) m ∧ (prodAt z b us m).2.length = m ∧ Wrs (n + m) (prodAt z b us m).2 := by
  intro m
  induction m with
  | zero => exact fun _ => ⟨Grw.refl hz, rfl, Wrs.nil _⟩
  | succ m ih =>
    intro h
    obtain ⟨g, hl, hs⟩ := ih (by omega)
    exact ⟨(g.put (gok_and (hb.mono g.le) ((hU m (by omega)).mono g.le))).is rfl, by simp [prodAt, hl], (hs.mono (by omega)).snoc (nG_wr g.len)⟩
/-- How many gates and and gates the product has after row i. -/
def mulN : Nat → Nat
  | 0 => 4
  | i + 1 => mulN i + (4 - (i + 1)) + 1 + 5 * (3 - (i + 1)) + 1 + 1
def mulC : Nat → Nat
  | 0 => 4
  | i + 1 => mulC i + (4 - (i + 1)) + (3 - (i + 1))
theorem mulAt_grw (hz : z.length = n * 3) (hU : Wrs n us) (hW : Wrs n ws) (lu : us.length = 4) (lw : ws.length = 4) : ∀ i, i ≤ 3 →
    Grw z n (mulAt z us ws i).1 (n + mulN i) (mulC i) ∧ (mulAt z us ws i).2.length = 4 ∧ Wrs (n + mulN i) (mulAt z us ws i).2 := by
  intro i
  induction i with
  | zero => exact fun _ => prodAt_grw hz (hW 0 (by omega)) hU 4 (by omega)
  | succ i ih =>
    intro hi
    obtain ⟨g, hl, hs⟩ := ih (by omega)
    obtain ⟨g1, hl1, hs1⟩ := prodAt_grw g.len ((hW (i + 1) (by omega)).mono g.le) (hU.mono g.le) (4 - (i + 1)) (by omega)
    have hs2 := hs.mono g1.le
    obtain ⟨g2, hl2, hs3⟩ := sumA_grw g1.len (hs2.drop (i + 1)) hs1 (f := 0) (by unfold isBit; omega) (m := 3 - (i + 1)) (by rw [List.length_drop, hl]; omega) (by rw [hl1]; omega)
    have g3 := (g.trans g1).trans g2
    refine ⟨?_, ?_, ?_⟩
    · have e : n + mulN (i + 1) = n + mulN i + (4 - (i + 1)) + 1 + 5 * (3 - (i + 1)) + 1 + 1 := by simp only [mulN]; omega
      rw [e]
      exact g3.is rfl
    · show ((mulAt z us ws i).2.take (i + 1) ++ _).length = 4
      rw [List.length_append, List.length_take, hl, hl2]; omega
    · have e : n + mulN (i + 1) = n + mulN i + (4 - (i + 1)) + 1 + 5 * (3 - (i + 1)) + 1 + 1 := by simp only [mulN]; omega
      rw [e]
      exact (hs2.mono (by omega)).take (i + 1) |>.app hs3
end
end Go.Proofs.Ytbbdmgomcpmhpaa

namespace Go.Proofs.Ytbbdmgomcpmhpaa
open Go Go.RowKit
section
variable {z bs : List Int} {n n' : Nat} {us ws xs ys z' : List Int} {u x y t : Int}
/-- The bits of a list, inverted. -/
def inv1 (l : List Int) : List Int := l.map fun b => 1 - b
theorem inv1_bit {l : List Int} (h : allBit l) : allBit (inv1 l) := fun x hx => by
  obtain ⟨b, hb, rfl⟩ := List.mem_map.1 hx
  have := h b hb
  unfold isBit at *
  omega
theorem numB_inv (l : List Int) : numB (inv1 l) = 2 ^ l.length - 1 - numB l := by
  induction l with
  | nil => simp [inv1, numB]
  | cons a l ih =>
    have e : inv1 (a :: l) = (1 - a) :: inv1 l := rfl
    rw [e]
    simp only [numB, ih, List.length_cons, Int.pow_succ]
    omega
theorem notsAt_val (hz : z.length = n * 3) (hW : Vals z bs n ws ys) : ∀ m, m ≤ ws.length → Step bs z n (notsAt z ws m).1 (n + m) ∧ Vals (notsAt z ws m).1 bs (n + m) (notsAt z ws m).2 (inv1 (ys.take m)) := by
  intro m
  induction m with
  | zero => exact fun _ => ⟨Step.refl bs hz, Vals.nil _ _ _⟩
  | succ m ih =>
    intro h
    obtain ⟨st, hv⟩ := ih (by omega)
    have k : m < ys.length := by rw [← hW.1]; omega
    refine ⟨st.put _ _ _, ?_⟩
    rw [take_snoc k, show inv1 (ys.take m ++ [ys.getD m 0]) = inv1 (ys.take m) ++ [1 - ys.getD m 0] by simp [inv1]]
    exact (hv.step ((Step.refl bs st.len).put 5 (ws.getD m 0) 0)).snoc (((hW.step st).2 m (by omega)).not st.len)
/-- The first m bits of a number. -/
def bitsL (v : Int) (m : Nat) : List Int := (List.range m).map fun i => v / 2 ^ i % 2
theorem bitsL_succ (v : Int) (m : Nat) : bitsL v (m + 1) = bitsL v m ++ [v / 2 ^ m % 2] := by simp [bitsL, List.range_succ]
theorem bitsL_length (v : Int) (m : Nat) : (bitsL v m).length = m := by simp [bitsL]
theorem bitsL_bit (v : Int) (m : Nat) : allBit (bitsL v m) := fun x hx => by
  obtain ⟨i, _, rfl⟩ := List.mem_map.1 hx
  unfold isBit
  omega
theorem numB_bitsL (v : Int) (m : Nat) : numB (bitsL v m) = v % 2 ^ m := by
  induction m with
  | zero => simp [bitsL, numB, Int.emod_one]
  | succ m ih =>
    rw [bitsL_succ, numB_snoc, bitsL_length, ih, Int.pow_succ]
    have h1 := Int.emod_add_mul_ediv v (2 ^ m)
    have h2 := Int.emod_add_mul_ediv (v / 2 ^ m) 2
    have h3 := Int.emod_add_mul_ediv v (2 ^ m * 2)
    have h4 : v / (2 ^ m * 2) = v / 2 ^ m / 2 := by rw [Int.ediv_ediv_of_nonneg (Int.le_of_lt (Int.pow_pos (by omega)))]
    rw [h4] at h3
    generalize v / 2 ^ m / 2 = q at *
    generalize v / 2 ^ m % 2 = r at *
    generalize v / 2 ^ m = d at *
    generalize (2 : Int) ^ m = P at *
    generalize v % P = a at *
    generalize v % (P * 2) = b at *
    grind
theorem constAt_val (v : Int) (hz : z.length = n * 3) : ∀ m, Step bs z n (constAt z v m).1 (n + m) ∧ Vals (constAt z v m).1 bs (n + m) (constAt z v m).2 (bitsL v m) := by
  intro m
  induction m with
  | zero => exact ⟨Step.refl bs hz, Vals.nil _ _ _⟩
  | succ m ih =>
    obtain ⟨st, hv⟩ := ih
    refine ⟨st.put _ _ _, ?_⟩
    rw [bitsL_succ]
    exact (hv.step ((Step.refl bs st.len).put 2 _ 0)).snoc (Val.const _ st.len)
/-- The carry of full adders. -/
theorem carryAt_val (hz : z.length = n * 3) (hU : Vals z bs n us xs) (hW : Vals z bs n ws ys) (hx : allBit xs) (hy : allBit ys) : ∀ m, m ≤ us.length → m ≤ ws.length →
    Step bs z n (carryAt z us ws m).1 (n + 1 + 5 * m) ∧ ∃ s c : Int, 0 ≤ s ∧ s < 2 ^ m ∧ isBit c ∧ Val (carryAt z us ws m).1 bs (n + 1 + 5 * m) (carryAt z us ws m).2 c ∧ s + 2 ^ m * c = numB (xs.take m) + numB (ys.take m) + 1 := by
  intro m
  induction m with
  | zero => exact fun _ _ => ⟨(Step.refl bs hz).put 2 1 0, 0, 1, Int.le_refl _, by simp, by unfold isBit; omega, Val.const 1 hz, by simp [numB]⟩
  | succ m ih =>
    intro h1 h2
    obtain ⟨st, s, c, hs0, hs1, hc, hcv, he⟩ := ih (by omega) (by omega)
    obtain ⟨s5, v1, v2⟩ := full_val st.len ((hU.step st).2 m (by omega)) ((hW.step st).2 m (by omega)) hcv (hx.at_ m) (hy.at_ m) hc
    have hxm := hx.at_ m
    have hym := hy.at_ m
    have k1 : m < xs.length := by rw [← hU.1]; omega
    have k2 : m < ys.length := by rw [← hW.1]; omega
    have e2 : (xs.getD m 0 + ys.getD m 0 + c) % 2 + 2 * ((xs.getD m 0 + ys.getD m 0 + c) / 2) = xs.getD m 0 + ys.getD m 0 + c := by omega
    have hP : (0 : Int) < 2 ^ m := Int.pow_pos (by omega)
    have hr : (xs.getD m 0 + ys.getD m 0 + c) % 2 = 0 ∨ (xs.getD m 0 + ys.getD m 0 + c) % 2 = 1 := by omega
    refine ⟨st.trans s5, s + 2 ^ m * ((xs.getD m 0 + ys.getD m 0 + c) % 2), (xs.getD m 0 + ys.getD m 0 + c) / 2, ?_, ?_, by unfold isBit at *; omega, v2, ?_⟩
    · rcases hr with e | e <;> rw [e] <;> omega
    · rw [Int.pow_succ]; rcases hr with e | e <;> rw [e] <;> omega
    · rw [take_snoc k1, take_snoc k2, numB_snoc, numB_snoc, List.length_take, List.length_take, Nat.min_eq_left (by omega), Nat.min_eq_left (by omega), Int.pow_succ]
      generalize (xs.getD m 0 + ys.getD m 0 + c) % 2 = r at *
      generalize (xs.getD m 0 + ys.getD m 0 + c) / 2 = q at *
      generalize xs.getD m 0 = a at *
      generalize ys.getD m 0 = b at *
      generalize (2 : Int) ^ m = P at *
      clear ih hcv v1 v2 s5 st hr
      grind
theorem allBit.take {l : List Int} (h : allBit l) (k : Nat) : allBit (l.take k) := fun x hx => h x (List.mem_of_mem_take hx)
theorem Vals.four (h : Vals z bs n us xs) (k : us.length = 4) : xs.take 4 = xs ∧ xs.length = 4 := ⟨List.take_of_length_le (by rw [← h.1, k]; omega), by rw [← h.1, k]⟩
/-- A difference of words. -/
theorem sub_val (hz : z.length = n * 3) (hU : Vals z bs n us xs) (hW : Vals z bs n ws ys) (hx : allBit xs) (hy : allBit ys) (lu : us.length = 4) (lw : ws.length = 4) :
    Step bs z n (sumA (notsAt z ws 4).1 us (notsAt z ws 4).2 1 3).1 (n + 4 + 1 + 5 * 3 + 1 + 1) ∧ ∃ ss : List Int, ss.length = 4 ∧ allBit ss ∧ Vals (sumA (notsAt z ws 4).1 us (notsAt z ws 4).2 1 3).1 bs (n + 4 + 1 + 5 * 3 + 1 + 1) (sumA (notsAt z ws 4).1 us (notsAt z ws 4).2 1 3).2 ss ∧ numB ss = (numB xs - numB ys) % 16 := by
  obtain ⟨s1, v1⟩ := notsAt_val hz hW 4 (by omega)
  obtain ⟨e1, e2⟩ := hW.four lw
  rw [e1] at v1
  have ln : (notsAt z ws 4).2.length = 4 := by rw [v1.1]; simp [inv1, e2]
  obtain ⟨s2, ss, hl, hs, hv, he⟩ := sumA_val s1.len (hU.step s1) v1 hx (inv1_bit hy) (f := 1) (by unfold isBit; omega) lu ln
  refine ⟨s1.trans s2, ss, hl, hs, hv, ?_⟩
  rw [he, numB_inv, e2]
  omega
/-- Comparing words. -/
theorem less_val (hz : z.length = n * 3) (hU : Vals z bs n us xs) (hW : Vals z bs n ws ys) (hx : allBit xs) (hy : allBit ys) (lu : us.length = 4) (lw : ws.length = 4) :
    Step bs z n (lessA z us ws).1 (n + 4 + 1 + 5 * 4 + 1) ∧ Val (lessA z us ws).1 bs (n + 4 + 1 + 5 * 4 + 1) (lessA z us ws).2 (if numB xs < numB ys then 1 else 0) := by
  obtain ⟨s1, v1⟩ := notsAt_val hz hW 4 (by omega)
  obtain ⟨e1, e2⟩ := hW.four lw
  obtain ⟨e3, e4⟩ := hU.four lu
  rw [e1] at v1
  have ln : (notsAt z ws 4).2.length = 4 := by rw [v1.1]; simp [inv1, e2]
  obtain ⟨s2, s, c, hs0, hs1, hc, hv, he⟩ := carryAt_val s1.len (hU.step s1) v1 hx (inv1_bit hy) 4 (by omega) (by omega)
  have v3 := hv.not s2.len
  refine ⟨s1.trans (s2.put _ _ _), v3.is ?_⟩
  have e5 : (inv1 ys).take 4 = inv1 ys := List.take_of_length_le (by simp [inv1, e2])
  rw [e3, e5, numB_inv, e2] at he
  have h1 := numB_range hx
  have h2 := numB_range hy
  rw [e4] at h1
  rw [e2] at h2
  rcases hc.or with rfl | rfl
  · rw [if_pos (by omega)]; rfl
  · rw [if_neg (by omega)]; rfl
/-- Where bits are equal. -/
def eqL (xs ys : List Int) (m : Nat) : List Int := (List.range m).map fun i => if xs.getD i 0 = ys.getD i 0 then 1 else 0
theorem eqL_succ (xs ys : List Int) (m : Nat) : eqL xs ys (m + 1) = eqL xs ys m ++ [if xs.getD m 0 = ys.getD m 0 then 1 else 0] := by simp [eqL, List.range_succ]
theorem eqL_at (xs ys : List Int) {m i : Nat} (h : i < m) : (eqL xs ys m).getD i 0 = if xs.getD i 0 = ys.getD i 0 then 1 else 0 := by simp [eqL, List.getD_eq_getElem?_getD, h]
theorem xnorAt_val (hz : z.length = n * 3) (hU : Vals z bs n us xs) (hW : Vals z bs n ws ys) : ∀ m, m ≤ us.length → m ≤ ws.length → Step bs z n (xnorAt z us ws m).1 (n + 2 * m) ∧ Vals (xnorAt z us ws m).1 bs (n + 2 * m) (xnorAt z us ws m).2 (eqL xs ys m) := by
  intro m
  induction m with
  | zero => exact fun _ _ => ⟨Step.refl bs hz, Vals.nil _ _ _⟩
  | succ m ih =>
    intro h1 h2
    obtain ⟨st, hv⟩ := ih (by omega) (by omega)
    have s1 := (Step.refl bs st.len).put 3 (us.getD m 0) (ws.getD m 0)
    have v1 := ((hU.step st).2 m (by omega)).xor ((hW.step st).2 m (by omega)) st.len
    have s2 := s1.put 5 (nG (xnorAt z us ws m).1) 0
    refine ⟨st.trans s2, ?_⟩
    rw [eqL_succ]
    exact (hv.step s2).snoc ((v1.not s1.len).is (by split <;> rfl))
/-- Whether the first m + 1 bits are equal. -/
def eqTo (xs ys : List Int) : Nat → Int
  | 0 => if xs.getD 0 0 = ys.getD 0 0 then 1 else 0
  | m + 1 => eqTo xs ys m * if xs.getD (m + 1) 0 = ys.getD (m + 1) 0 then 1 else 0
theorem andAt_val (hz : z.length = n * 3) {k : Nat} (hU : Vals z bs n us (eqL xs ys k)) : ∀ m, m < k → Step bs z n (andAt z us m).1 (n + m) ∧ Val (andAt z us m).1 bs (n + m) (andAt z us m).2 (eqTo xs ys m) := by
  have hl : us.length = k := by rw [hU.1]; simp [eqL]
  intro m
  induction m with
  | zero => exact fun h => ⟨Step.refl bs hz, (hU.2 0 (by omega)).is (eqL_at xs ys h)⟩
  | succ m ih =>
    intro h
    obtain ⟨st, hv⟩ := ih (by omega)
    exact ⟨st.put _ _ _, hv.and (((hU.step st).2 (m + 1) (by omega)).is (eqL_at xs ys h)) st.len⟩
theorem eqTo_four {xs ys : List Int} (h1 : xs.length = 4) (h2 : ys.length = 4) : eqTo xs ys 3 = if xs = ys then 1 else 0 := by
  match xs, ys, h1, h2 with
  | [a, b, c, d], [a', b', c', d'], _, _ =>
    simp only [eqTo, List.getD_cons_zero, List.getD_cons_succ, List.cons.injEq, and_true]
    by_cases e1 : a = a' <;> by_cases e2 : b = b' <;> by_cases e3 : c = c' <;> by_cases e4 : d = d' <;> simp [e1, e2, e3, e4]
/-- Words that are equal. -/
theorem equal_val (hz : z.length = n * 3) (hU : Vals z bs n us xs) (hW : Vals z bs n ws ys) (lu : us.length = 4) (lw : ws.length = 4) :
    Step bs z n (equalA z us ws).1 (n + 2 * 4 + 3) ∧ Val (equalA z us ws).1 bs (n + 2 * 4 + 3) (equalA z us ws).2 (if xs = ys then 1 else 0) := by
  obtain ⟨s1, v1⟩ := xnorAt_val hz hU hW 4 (by omega) (by omega)
  obtain ⟨s2, v2⟩ := andAt_val s1.len v1 3 (by omega)
  exact ⟨s1.trans s2, v2.is (eqTo_four (hU.four lu).2 (hW.four lw).2)⟩
/-- The word that is chosen. -/
theorem muxAt_val {s c : Int} (hz : z.length = n * 3) (hs : Val z bs n s c) (hc : isBit c) (hU : Vals z bs n us xs) (hW : Vals z bs n ws ys) (hx : allBit xs) (hy : allBit ys) : ∀ m, m ≤ us.length → m ≤ ws.length →
    Step bs z n (muxAt z s us ws m).1 (n + 3 * m) ∧ Vals (muxAt z s us ws m).1 bs (n + 3 * m) (muxAt z s us ws m).2 (if c = 1 then xs.take m else ys.take m) := by
  intro m
  induction m with
  | zero => exact fun _ _ => ⟨Step.refl bs hz, by simp only [List.take_zero, ite_self]; exact Vals.nil _ _ _⟩
  | succ m ih =>
    intro h1 h2
    obtain ⟨st, hv⟩ := ih (by omega) (by omega)
    have k1 : m < xs.length := by rw [← hU.1]; omega
    have k2 : m < ys.length := by rw [← hW.1]; omega
    have s1 := (Step.refl bs st.len).put 3 (us.getD m 0) (ws.getD m 0)
    have v1 := ((hU.step st).2 m (by omega)).xor ((hW.step st).2 m (by omega)) st.len
    have s2 := s1.put 4 s (nG (muxAt z s us ws m).1)
    have v2 := (s1.keep _ _ (st.keep _ _ hs)).and v1 s1.len
    have s3 := s2.put 3 (nG (putG (muxAt z s us ws m).1 3 (us.getD m 0) (ws.getD m 0))) (ws.getD m 0)
    have v3 := v2.xor (s2.keep _ _ ((hW.step st).2 m (by omega))) s2.len
    have hxm := hx.at_ m
    have hym := hy.at_ m
    refine ⟨st.trans s3, ?_⟩
    rw [show (if c = 1 then xs.take (m + 1) else ys.take (m + 1)) = (if c = 1 then xs.take m else ys.take m) ++ [if c = 1 then xs.getD m 0 else ys.getD m 0] by rw [take_snoc k1, take_snoc k2]; split <;> rfl]
    refine (hv.step s3).snoc (v3.is ?_)
    rcases hc.or with e | e <;> rcases hxm.or with e' | e' <;> rcases hym.or with e3 | e3 <;> rw [e, e', e3] <;> decide
/-- One row of a product. -/
theorem prodAt_val {b y : Int} (hz : z.length = n * 3) (hb : Val z bs n b y) (hy : isBit y) (hU : Vals z bs n us xs) (hx : allBit xs) : ∀ m, m ≤ us.length →
    Step bs z n (prodAt z b us m).1 (n + m) ∧ ∃ ps : List Int, ps.length = m ∧ allBit ps ∧ Vals (prodAt z b us m).1 bs (n + m) (prodAt z b us m).2 ps ∧ numB ps = y * numB (xs.take m) := by
  intro m
  induction m with
  | zero => exact fun _ => ⟨Step.refl bs hz, [], rfl, fun x hx => by simp at hx, Vals.nil _ _ _, by simp [numB]⟩
  | succ m ih =>
    intro h
    obtain ⟨st, ps, hl, hp, hv, he⟩ := ih (by omega)
    have k : m < xs.length := by rw [← hU.1]; omega
    have hxm := hx.at_ m
    have v1 := (st.keep _ _ hb).and ((hU.step st).2 m (by omega)) st.len
    refine ⟨st.put _ _ _, ps ++ [y * xs.getD m 0], by simp [hl], hp.one ?_, (hv.step ((Step.refl bs st.len).put 4 b (us.getD m 0))).snoc v1, ?_⟩
    · rcases hy.or with e | e <;> rcases hxm.or with e' | e' <;> rw [e, e'] <;> decide
    · rw [numB_snoc, hl, take_snoc k, numB_snoc, List.length_take, Nat.min_eq_left (by omega), he]
      generalize (2 : Int) ^ m = P
      grind
theorem numB_split (l : List Int) (k : Nat) (h : k ≤ l.length) : numB l = numB (l.take k) + 2 ^ k * numB (l.drop k) := by
  induction l generalizing k with
  | nil => simp at h; subst h; simp [numB]
  | cons a l ih =>
    cases k with
    | zero => simp [numB]
    | succ k =>
      have := ih k (by simpa using h)
      simp only [List.take_succ_cons, List.drop_succ_cons, numB, Int.pow_succ]
      rw [this]
      generalize (2 : Int) ^ k = P
      grind
theorem Vals.drop (h : Vals z bs n us xs) (k : Nat) : Vals z bs n (us.drop k) (xs.drop k) := by
  refine ⟨by simp [h.1], fun i hi => ?_⟩
  have e := h.2 (k + i) (by simp at hi; omega)
  simpa [List.getD_eq_getElem?_getD, List.getElem?_drop] using e
theorem Vals.take (h : Vals z bs n us xs) (k : Nat) : Vals z bs n (us.take k) (xs.take k) := by
  refine ⟨by simp [h.1], fun i hi => ?_⟩
  have h1 : i < k ∧ i < us.length := by simp at hi; omega
  have e := h.2 i h1.2
  rw [List.getD_eq_getElem?_getD, List.getElem?_take_of_lt h1.1, ← List.getD_eq_getElem?_getD, List.getD_eq_getElem?_getD (l := xs.take k), List.getElem?_take_of_lt h1.1, ← List.getD_eq_getElem?_getD]
  exact e
theorem Vals.app {vs as' : List Int} (h : Vals z bs n us xs) (k : Vals z bs n vs as') : Vals z bs n (us ++ vs) (xs ++ as') := by
  refine ⟨by simp [h.1, k.1], fun i hi => ?_⟩
  rcases Nat.lt_or_ge i us.length with h1 | h1
  · rw [gD_left h1, gD_left (by rw [← h.1]; exact h1)]
    exact h.2 i h1
  · rw [gD_right h1, gD_right (by rw [← h.1]; exact h1), ← h.1]
    exact k.2 _ (by simp at hi; omega)
theorem allBit.app {l m : List Int} (h : allBit l) (k : allBit m) : allBit (l ++ m) := fun y hy => by
  rcases List.mem_append.1 hy with h1 | h1
  · exact h y h1
  · exact k y h1
theorem allBit.drop {l : List Int} (h : allBit l) (k : Nat) : allBit (l.drop k) := fun x hx => h x (List.mem_of_mem_drop hx)
theorem numB_app (l m : List Int) : numB (l ++ m) = numB l + 2 ^ l.length * numB m := by
  have h := numB_split (l ++ m) l.length (by simp)
  simpa using h
/-- A product of words. -/
theorem mulAt_val (hz : z.length = n * 3) (hU : Vals z bs n us xs) (hW : Vals z bs n ws ys) (hx : allBit xs) (hy : allBit ys) (lu : us.length = 4) (lw : ws.length = 4) : ∀ i, i ≤ 3 →
    Step bs z n (mulAt z us ws i).1 (n + mulN i) ∧ ∃ ss : List Int, ss.length = 4 ∧ allBit ss ∧ Vals (mulAt z us ws i).1 bs (n + mulN i) (mulAt z us ws i).2 ss ∧ numB ss = numB xs * numB (ys.take (i + 1)) % 16 := by
  obtain ⟨e1, e2⟩ := hU.four lu
  obtain ⟨e3, e4⟩ := hW.four lw
  have hxr := numB_range hx
  rw [e2] at hxr
  intro i
  induction i with
  | zero =>
    intro _
    obtain ⟨st, ps, hl, hp, hv, he⟩ := prodAt_val hz (hW.2 0 (by omega)) (hy.at_ 0) hU hx 4 (by omega)
    refine ⟨st, ps, hl, hp, hv, ?_⟩
    rw [he, e1, show ys.take (0 + 1) = [ys.getD 0 0] by rw [take_snoc (by omega)]; rfl]
    have := hy.at_ 0
    simp only [numB]
    rcases this.or with e | e <;> rw [e] <;> omega
  | succ i ih =>
    intro hi
    obtain ⟨st, ss, hl, hs, hv, he⟩ := ih (by omega)
    have hyb := hy.at_ (i + 1)
    obtain ⟨s1, ps, pl, hp, pv, pe⟩ := prodAt_val st.len ((hW.step st).2 (i + 1) (by omega)) hyb (hU.step st) hx (4 - (i + 1)) (by omega)
    have sv := hv.step s1
    have svl : (mulAt z us ws i).2.length = 4 := by rw [hv.1, hl]
    have pvl : (prodAt (mulAt z us ws i).1 (ws.getD (i + 1) 0) us (4 - (i + 1))).2.length = 4 - (i + 1) := by rw [pv.1, pl]
    obtain ⟨s2, hs2, hl2, hb2, hv2, he2⟩ := sumA_val s1.len (sv.drop (i + 1)) pv (hs.drop (i + 1)) hp (f := 0) (by unfold isBit; omega) (m := 3 - (i + 1)) (by rw [List.length_drop, svl]; omega) (by rw [pvl]; omega)
    rw [show n + mulN (i + 1) = n + mulN i + (4 - (i + 1)) + 1 + 5 * (3 - (i + 1)) + 1 + 1 by simp only [mulN]; omega]
    refine ⟨(st.trans s1).trans s2, ss.take (i + 1) ++ hs2, by rw [List.length_append, List.length_take, hl, hl2]; omega, (hs.take _).app hb2, ((sv.take (i + 1)).step s2).app hv2, ?_⟩
    rw [numB_app, List.length_take, hl, Nat.min_eq_left (by omega), he2, pe]
    have sp := numB_split ss (i + 1) (by omega)
    have xp := numB_split xs (4 - (i + 1)) (by omega)
    have yt : numB (ys.take (i + 1 + 1)) = numB (ys.take (i + 1)) + 2 ^ (i + 1) * ys.getD (i + 1) 0 := by
      rw [take_snoc (by omega), numB_snoc, List.length_take, Nat.min_eq_left (by omega)]
    have lr := numB_range (hs.take (i + 1))
    rw [List.length_take, hl, Nat.min_eq_left (by omega)] at lr
    rw [yt]
    have hq : numB xs * (numB (ys.take (i + 1)) + 2 ^ (i + 1) * ys.getD (i + 1) 0) % 16 = (numB ss + 2 ^ (i + 1) * (numB xs * ys.getD (i + 1) 0)) % 16 := by
      rw [he, show numB xs * (numB (ys.take (i + 1)) + 2 ^ (i + 1) * ys.getD (i + 1) 0) = numB xs * numB (ys.take (i + 1)) + 2 ^ (i + 1) * (numB xs * ys.getD (i + 1) 0) by grind]
      generalize numB xs * numB (ys.take (i + 1)) = a
      generalize 2 ^ (i + 1) * (numB xs * ys.getD (i + 1) 0) = b
      omega
    rw [hq, sp]
    have hi3 : i = 0 ∨ i = 1 ∨ i = 2 := by omega
    clear sv pv hv hv2 s1 s2 st ih hq he he2 pe sp yt hU hW
    generalize numB (ss.take (i + 1)) = L at *
    generalize numB (ss.drop (i + 1)) = H at *
    generalize hX : numB (xs.take (4 - (i + 1))) = X at *
    generalize hY : numB (xs.drop (4 - (i + 1))) = Y at *
    generalize numB xs = N at *
    rcases hi3 with rfl | rfl | rfl <;> rcases hyb.or with e | e <;> rw [e] <;> simp at * <;> omega
end
end Go.Proofs.Ytbbdmgomcpmhpaa

namespace Go.Proofs.Ytbbdmgomcpmhpaa
open Go Go.RowKit
/-- The numbers that groups of four bits say. -/
def words4 : List Int → List Int
  | a :: b :: c :: d :: l => (a + 2 * b + 4 * c + 8 * d) :: words4 l
  | _ => []
def wordsOk (xs : List Int) : Prop := xs.length % 4 = 0 ∧ allBit xs
instance (xs : List Int) : Decidable (wordsOk xs) := by unfold wordsOk; infer_instance
def wordsI (xs : List Int) : List Int := if wordsOk xs then words4 xs else []
theorem words4_app {a b c d : Int} (l : List Int) : words4 (a :: b :: c :: d :: l) = (a + 2 * b + 4 * c + 8 * d) :: words4 l := by rw [words4]
theorem words4_length (xs : List Int) : (words4 xs).length = xs.length / 4 := by
  induction xs using words4.induct with
  | case1 a b c d l ih => rw [words4, List.length_cons, ih]; simp only [List.length_cons]; omega
  | case2 l h =>
    rw [words4]
    · match l, h with
      | [], _ => rfl
      | [_], _ => simp
      | [_, _], _ => simp
      | [_, _, _], _ => simp
      | a :: b :: c :: d :: l, h => exact (h a b c d l rfl).elim
    · exact h
theorem words4_at (xs : List Int) : ∀ i, i < xs.length / 4 → (words4 xs).getD i 0 = xs.getD (4 * i) 0 + 2 * xs.getD (4 * i + 1) 0 + 4 * xs.getD (4 * i + 2) 0 + 8 * xs.getD (4 * i + 3) 0 := by
  induction xs using words4.induct with
  | case1 a b c d l ih =>
    intro i h
    rw [words4]
    cases i with
    | zero => rfl
    | succ i =>
      rw [List.getD_cons_succ, ih i (by simp only [List.length_cons] at h; omega), show 4 * (i + 1) = 4 * i + 1 + 1 + 1 + 1 by omega]
      simp only [List.getD_cons_succ]
  | case2 l h =>
    intro i hi
    exfalso
    match l, h with
    | [], _ => simp at hi
    | [_], _ => simp at hi
    | [_, _], _ => simp at hi
    | [_, _, _], _ => simp at hi
    | a :: b :: c :: d :: l, h => exact h a b c d l rfl
/-- The words of a longer run of bits. -/
theorem words4_step {xs : List Int} {i : Nat} (h : i < xs.length / 4) : (words4 xs).take (i + 1) = (words4 xs).take i ++ [xs.getD (4 * i) 0 + 2 * xs.getD (4 * i + 1) 0 + 4 * xs.getD (4 * i + 2) 0 + 8 * xs.getD (4 * i + 3) 0] := by
  rw [take_snoc (by rw [words4_length]; exact h), words4_at xs i h]
theorem words4_done (xs : List Int) : (words4 xs).take (xs.length / 4) = words4 xs := List.take_of_length_le (by rw [words4_length]; omega)
end Go.Proofs.Ytbbdmgomcpmhpaa
