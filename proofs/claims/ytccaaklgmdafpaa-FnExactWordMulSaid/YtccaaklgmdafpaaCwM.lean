/- Circuit builders in plain numbers: gates are appended to a list of numbers, three a gate. No condition. -/
import Derived.Test.YtccaaklgmdafpaaProg
import Derived.Test.YtccaaklgmdafpaaCirM
namespace Go.Proofs.Ytccaaklgmdafpaa
open Go Go.RowKit
/-- The wire of the next gate. -/
def nG (z : List Int) : Int := ((z.length / 3 : Nat) : Int)
def putG (z : List Int) (k a b : Int) : List Int := z ++ [k, a, b]
theorem putG_length {z : List Int} {n : Nat} (k a b : Int) (h : z.length = n * 3) : (putG z k a b).length = (n + 1) * 3 := by simp [putG, h]; omega
theorem nG_is {z : List Int} {n : Nat} (h : z.length = n * 3) : nG z = n := by simp [nG, h]
/-- A full adder: the gates, the sum, the next carry. -/
def fullA (z : List Int) (a b c : Int) : List Int × Int × Int :=
  let z1 := putG z 3 a c
  let z2 := putG z1 3 b c
  let z3 := putG z2 3 a (nG z1)
  let z4 := putG z3 4 (nG z) (nG z1)
  (putG z4 3 (nG z3) c, nG z2, nG z4)
/-- The full adders of the first i places: the gates, the sums, the carry. -/
def sumAt (z us bs : List Int) (first : Int) : Nat → List Int × List Int × Int
  | 0 => (putG z 2 first 0, [], nG z)
  | i + 1 =>
    let r := sumAt z us bs first i
    let f := fullA r.1 (us.getD i 0) (bs.getD i 0) r.2.2
    (f.1, r.2.1 ++ [f.2.1], f.2.2)
/-- The sum of two lists of n + 1 wires. -/
def sumA (z us bs : List Int) (first : Int) (n : Nat) : List Int × List Int :=
  let r := sumAt z us bs first n
  let z1 := putG r.1 3 (us.getD n 0) (bs.getD n 0)
  (putG z1 3 (nG r.1) r.2.2, r.2.1 ++ [nG z1])
def notsAt (z bs : List Int) : Nat → List Int × List Int
  | 0 => (z, [])
  | i + 1 =>
    let r := notsAt z bs i
    (putG r.1 5 (bs.getD i 0) 0, r.2 ++ [nG r.1])
def constAt (z : List Int) (n : Int) : Nat → List Int × List Int
  | 0 => (z, [])
  | i + 1 =>
    let r := constAt z n i
    (putG r.1 2 (n / 2 ^ i % 2) 0, r.2 ++ [nG r.1])
def carryAt (z us xs : List Int) : Nat → List Int × Int
  | 0 => (putG z 2 1 0, nG z)
  | i + 1 =>
    let r := carryAt z us xs i
    let f := fullA r.1 (us.getD i 0) (xs.getD i 0) r.2
    (f.1, f.2.2)
def lessA (z us bs : List Int) : List Int × Int :=
  let x := notsAt z bs 4
  let r := carryAt x.1 us x.2 4
  (putG r.1 5 r.2 0, nG r.1)
def xnorAt (z us bs : List Int) : Nat → List Int × List Int
  | 0 => (z, [])
  | i + 1 =>
    let r := xnorAt z us bs i
    let z1 := putG r.1 3 (us.getD i 0) (bs.getD i 0)
    (putG z1 5 (nG r.1) 0, r.2 ++ [nG z1])
def andAt (z xs : List Int) : Nat → List Int × Int
  | 0 => (z, xs.getD 0 0)
  | i + 1 =>
    let r := andAt z xs i
    (putG r.1 4 r.2 (xs.getD (i + 1) 0), nG r.1)
def equalA (z us bs : List Int) : List Int × Int :=
  let x := xnorAt z us bs 4
  andAt x.1 x.2 3
def muxAt (z : List Int) (s : Int) (us bs : List Int) : Nat → List Int × List Int
  | 0 => (z, [])
  | i + 1 =>
    let r := muxAt z s us bs i
    let z1 := putG r.1 3 (us.getD i 0) (bs.getD i 0)
    let z2 := putG z1 4 s (nG r.1)
    (putG z2 3 (nG z1) (bs.getD i 0), r.2 ++ [nG z2])
/-- The products of one wire b with the first k wires of a list. -/
def prodAt (z : List Int) (b : Int) (us : List Int) : Nat → List Int × List Int
  | 0 => (z, [])
  | k + 1 =>
    let r := prodAt z b us k
    (putG r.1 4 b (us.getD k 0), r.2 ++ [nG r.1])
def mulAt (z us bs : List Int) : Nat → List Int × List Int
  | 0 => prodAt z (bs.getD 0 0) us 4
  | i + 1 =>
    let r := mulAt z us bs i
    let p := prodAt r.1 (bs.getD (i + 1) 0) us (4 - (i + 1))
    let h := sumA p.1 (r.2.drop (i + 1)) p.2 0 (3 - (i + 1))
    (h.1, r.2.take (i + 1) ++ h.2)
/-- What every builder keeps: whole gates, valid ones, wires of theirs. -/
structure Built (z : List Int) (n : Nat) (z' : List Int) (m : Nat) : Prop where
  pre : ∃ y, z' = z ++ y
  len : z'.length = m * 3
  ok : gatesOk z' m
  le : n ≤ m
theorem Built.start {z : List Int} {n : Nat} (hz : z.length = n * 3) (h : gatesOk z n) : Built z n z n := ⟨⟨[], by simp⟩, hz, h, Nat.le_refl _⟩
theorem Built.put {z z' : List Int} {n m : Nat} {k a b : Int} (h : Built z n z' m) (hg : gateOk k a b m) : Built z n (putG z' k a b) (m + 1) := by
  obtain ⟨y, rfl⟩ := h.pre
  exact ⟨⟨y ++ [k, a, b], by simp [putG]⟩, putG_length k a b h.len, gatesOk_snoc h.len h.ok hg, by have := h.le; omega⟩
/-- In these gates the wire u has the value x. -/
def Val (z bs : List Int) (n : Nat) (u x : Int) : Prop := 0 ≤ u ∧ u < (n : Int) ∧ (wv z bs n).getD u.toNat 0 = x
section
variable {z bs : List Int} {n : Nat} {a b c u x y t : Int}
theorem wv_put (k a b : Int) (hz : z.length = n * 3) : wv (putG z k a b) bs (n + 1) = wv z bs n ++ [gval k a b (wv z bs n) bs] := by
  obtain ⟨e1, e2, e3⟩ := gate_last k a b hz
  unfold putG
  rw [wv, wv_left hz n (Nat.le_refl _), e1, e2, e3]
theorem Val.put (h : Val z bs n u x) (k a b : Int) (hz : z.length = n * 3) : Val (putG z k a b) bs (n + 1) u x := by
  refine ⟨h.1, by have := h.2.1; omega, ?_⟩
  rw [wv_put k a b hz, gD_left (by rw [wv_length]; have := h.1; have := h.2.1; omega)]
  exact h.2.2
theorem Val.new (k a b : Int) (hz : z.length = n * 3) : Val (putG z k a b) bs (n + 1) (nG z) (gval k a b (wv z bs n) bs) := by
  rw [nG_is hz]
  refine ⟨by omega, by omega, ?_⟩
  rw [wv_put k a b hz, gD_right (by rw [wv_length]; omega), wv_length]
  simp
theorem Val.is (h : Val z bs n u x) (e : x = y) : Val z bs n u y := e ▸ h
theorem Val.xor (ha : Val z bs n a x) (hb : Val z bs n b y) (hz : z.length = n * 3) : Val (putG z 3 a b) bs (n + 1) (nG z) (if x = y then 0 else 1) :=
  (Val.new 3 a b hz).is (by simp [gval]; simp only [← List.getD_eq_getElem?_getD, ha.2.2, hb.2.2])
theorem Val.and (ha : Val z bs n a x) (hb : Val z bs n b y) (hz : z.length = n * 3) : Val (putG z 4 a b) bs (n + 1) (nG z) (x * y) :=
  (Val.new 4 a b hz).is (by simp [gval]; simp only [← List.getD_eq_getElem?_getD, ha.2.2, hb.2.2])
theorem Val.not (ha : Val z bs n a x) (hz : z.length = n * 3) : Val (putG z 5 a 0) bs (n + 1) (nG z) (1 - x) :=
  (Val.new 5 a 0 hz).is (by simp [gval]; simp only [← List.getD_eq_getElem?_getD, ha.2.2])
theorem Val.const (x : Int) (hz : z.length = n * 3) : Val (putG z 2 x 0) bs (n + 1) (nG z) x := (Val.new 2 x 0 hz).is (by simp [gval])
/-- What a builder leaves: m gates more, and the wires that were there keep their values. -/
structure Step (bs z : List Int) (n : Nat) (z' : List Int) (n' : Nat) : Prop where
  len : z'.length = n' * 3
  keep : ∀ u x, Val z bs n u x → Val z' bs n' u x
theorem Step.refl (bs : List Int) (hz : z.length = n * 3) : Step bs z n z n := ⟨hz, fun _ _ h => h⟩
theorem Step.put {z0 : List Int} {n0 : Nat} (h : Step bs z0 n0 z n) (k a b : Int) : Step bs z0 n0 (putG z k a b) (n + 1) := ⟨putG_length k a b h.len, fun u x hu => (h.keep u x hu).put k a b h.len⟩
theorem Step.trans {z0 z1 : List Int} {n0 n1 : Nat} (h : Step bs z0 n0 z1 n1) (k : Step bs z1 n1 z n) : Step bs z0 n0 z n := ⟨k.len, fun u x hu => k.keep u x (h.keep u x hu)⟩
/-- A full adder adds. -/
theorem full_val (hz : z.length = n * 3) (ha : Val z bs n a x) (hb : Val z bs n b y) (hc : Val z bs n c t) (hx : isBit x) (hy : isBit y) (ht : isBit t) :
    Step bs z n (fullA z a b c).1 (n + 5) ∧ Val (fullA z a b c).1 bs (n + 5) (fullA z a b c).2.1 ((x + y + t) % 2) ∧ Val (fullA z a b c).1 bs (n + 5) (fullA z a b c).2.2 ((x + y + t) / 2) := by
  have s0 := Step.refl bs hz
  have s1 := s0.put 3 a c
  have v1 := ha.xor hc hz
  have s2 := s1.put 3 b c
  have v2 := (s1.keep _ _ hb).xor (s1.keep _ _ hc) s1.len
  have s3 := s2.put 3 a (nG (putG z 3 a c))
  have v3 := (s2.keep _ _ ha).xor v2 s2.len
  have s4 := s3.put 4 (nG z) (nG (putG z 3 a c))
  have w1 := (v1.put 3 b c s1.len).put 3 a (nG (putG z 3 a c)) s2.len
  have w2 := v2.put 3 a (nG (putG z 3 a c)) s2.len
  have v4 := w1.and w2 s3.len
  have v5 := v4.xor (s4.keep _ _ hc) s4.len
  refine ⟨s4.put _ _ _, ((v3.put 4 _ _ s3.len).put 3 _ _ s4.len).is ?_, v5.is ?_⟩
  · rcases hx.or with rfl | rfl <;> rcases hy.or with rfl | rfl <;> rcases ht.or with rfl | rfl <;> decide
  · rcases hx.or with rfl | rfl <;> rcases hy.or with rfl | rfl <;> rcases ht.or with rfl | rfl <;> decide
end
/-- The number that bits say. -/
def numB : List Int → Int
  | [] => 0
  | b :: l => b + 2 * numB l
theorem numB_snoc (l : List Int) (b : Int) : numB (l ++ [b]) = numB l + 2 ^ l.length * b := by
  induction l with
  | nil => simp [numB]
  | cons a l ih => simp only [List.cons_append, numB, ih, List.length_cons, Int.pow_succ]; grind
theorem numB_range {l : List Int} (h : allBit l) : 0 ≤ numB l ∧ numB l < 2 ^ l.length := by
  induction l with
  | nil => simp [numB]
  | cons a l ih =>
    have h1 := h a (by simp)
    have h2 := ih (fun x hx => h x (by simp [hx]))
    unfold isBit at h1
    simp only [numB, List.length_cons, Int.pow_succ]
    omega
theorem allBit.one {l : List Int} {b : Int} (h : allBit l) (hb : isBit b) : allBit (l ++ [b]) := fun y hy => by
  rcases List.mem_append.1 hy with h1 | h1
  · exact h y h1
  · simp at h1; subst h1; exact hb
/-- Wires and their values. -/
def Vals (z bs : List Int) (n : Nat) (us xs : List Int) : Prop := us.length = xs.length ∧ ∀ i, i < us.length → Val z bs n (us.getD i 0) (xs.getD i 0)
section
variable {z bs : List Int} {n n' : Nat} {us ws xs ys z' : List Int} {u x : Int}
theorem Vals.step (h : Vals z bs n us xs) (k : Step bs z n z' n') : Vals z' bs n' us xs := ⟨h.1, fun i hi => k.keep _ _ (h.2 i hi)⟩
theorem Vals.nil (z bs : List Int) (n : Nat) : Vals z bs n [] [] := ⟨rfl, fun i hi => by simp at hi⟩
theorem Vals.snoc (h : Vals z bs n us xs) (k : Val z bs n u x) : Vals z bs n (us ++ [u]) (xs ++ [x]) := by
  refine ⟨by simp [h.1], fun i hi => ?_⟩
  rcases Nat.lt_or_ge i us.length with h1 | h1
  · rw [gD_left h1, gD_left (by rw [← h.1]; exact h1)]
    exact h.2 i h1
  · have e : i = us.length := by simp at hi; omega
    subst e
    rw [gD_right (Nat.le_refl _), Nat.sub_self, h.1, gD_right (Nat.le_refl _), Nat.sub_self]
    exact k
theorem take_snoc {l : List Int} {k : Nat} (h : k < l.length) : l.take (k + 1) = l.take k ++ [l.getD k 0] := by
  rw [List.take_add_one, List.getD_eq_getElem?_getD, List.getElem?_eq_getElem h]
  rfl
/-- The full adders of the first places add. -/
theorem sumAt_val (hz : z.length = n * 3) (hU : Vals z bs n us xs) (hW : Vals z bs n ws ys) (hx : allBit xs) (hy : allBit ys) {f : Int} (hf : isBit f) : ∀ m, m ≤ us.length → m ≤ ws.length →
    Step bs z n (sumAt z us ws f m).1 (n + 1 + 5 * m) ∧ ∃ (ss : List Int) (c : Int), ss.length = m ∧ allBit ss ∧ isBit c ∧ Vals (sumAt z us ws f m).1 bs (n + 1 + 5 * m) (sumAt z us ws f m).2.1 ss ∧ Val (sumAt z us ws f m).1 bs (n + 1 + 5 * m) (sumAt z us ws f m).2.2 c ∧
      numB ss + 2 ^ m * c = numB (xs.take m) + numB (ys.take m) + f := by
  intro m
  induction m with
  | zero => exact fun _ _ => ⟨(Step.refl bs hz).put 2 f 0, [], f, rfl, fun x hx => by simp at hx, hf, Vals.nil _ _ _, Val.const f hz, by simp [numB]⟩
  | succ m ih =>
    intro h1 h2
    obtain ⟨st, ss, c, hl, hs, hc, hv, hcv, he⟩ := ih (by omega) (by omega)
    obtain ⟨s5, v1, v2⟩ := full_val st.len ((hU.step st).2 m (by omega)) ((hW.step st).2 m (by omega)) hcv (hx.at_ m) (hy.at_ m) hc
    have hxm := hx.at_ m
    have hym := hy.at_ m
    have k1 : m < xs.length := by rw [← hU.1]; omega
    have k2 : m < ys.length := by rw [← hW.1]; omega
    refine ⟨st.trans s5, ss ++ [(xs.getD m 0 + ys.getD m 0 + c) % 2], (xs.getD m 0 + ys.getD m 0 + c) / 2, by simp [hl], hs.one (by unfold isBit; omega), by unfold isBit at *; omega, (hv.step s5).snoc v1, v2, ?_⟩
    rw [numB_snoc, hl, take_snoc k1, take_snoc k2, numB_snoc, numB_snoc, List.length_take, List.length_take, Nat.min_eq_left (by omega), Nat.min_eq_left (by omega), Int.pow_succ]
    have e2 : (xs.getD m 0 + ys.getD m 0 + c) % 2 + 2 * ((xs.getD m 0 + ys.getD m 0 + c) / 2) = xs.getD m 0 + ys.getD m 0 + c := by omega
    generalize (xs.getD m 0 + ys.getD m 0 + c) % 2 = s at *
    generalize (xs.getD m 0 + ys.getD m 0 + c) / 2 = q at *
    generalize xs.getD m 0 = a at *
    generalize ys.getD m 0 = b at *
    generalize (2 : Int) ^ m = P at *
    clear ih hv hcv v1 v2 s5 st
    grind
/-- The sum of two lists of m + 1 wires. -/
theorem sumA_val (hz : z.length = n * 3) (hU : Vals z bs n us xs) (hW : Vals z bs n ws ys) (hx : allBit xs) (hy : allBit ys) {f : Int} (hf : isBit f) {m : Nat} (lu : us.length = m + 1) (lw : ws.length = m + 1) :
    Step bs z n (sumA z us ws f m).1 (n + 1 + 5 * m + 1 + 1) ∧ ∃ ss : List Int, ss.length = m + 1 ∧ allBit ss ∧ Vals (sumA z us ws f m).1 bs (n + 1 + 5 * m + 1 + 1) (sumA z us ws f m).2 ss ∧ numB ss = (numB xs + numB ys + f) % 2 ^ (m + 1) := by
  obtain ⟨st, ss, c, hl, hs, hc, hv, hcv, he⟩ := sumAt_val hz hU hW hx hy hf m (by omega) (by omega)
  have k1 : m < xs.length := by rw [← hU.1]; omega
  have k2 : m < ys.length := by rw [← hW.1]; omega
  have vx := (hU.step st).2 m (by omega)
  have vy := (hW.step st).2 m (by omega)
  have s1 := (Step.refl bs st.len).put 3 (us.getD m 0) (ws.getD m 0)
  have v1 := vx.xor vy st.len
  have s2 := s1.put 3 (nG (sumAt z us ws f m).1) (sumAt z us ws f m).2.2
  have v2 := v1.xor (s1.keep _ _ hcv) s1.len
  have hxm := hx.at_ m
  have hym := hy.at_ m
  have hb : (if (if xs.getD m 0 = ys.getD m 0 then (0 : Int) else 1) = c then (0 : Int) else 1) = (xs.getD m 0 + ys.getD m 0 + c) % 2 := by
    rcases hxm.or with e | e <;> rcases hym.or with e' | e' <;> rcases hc.or with e3 | e3 <;> rw [e, e', e3] <;> decide
  rw [hb] at v2
  have hbit : isBit ((xs.getD m 0 + ys.getD m 0 + c) % 2) := by unfold isBit; omega
  refine ⟨st.trans s2, ss ++ [(xs.getD m 0 + ys.getD m 0 + c) % 2], by simp [hl], hs.one hbit, (hv.step s2).snoc v2, ?_⟩
  have tx : xs = xs.take m ++ [xs.getD m 0] := by rw [← take_snoc k1, List.take_of_length_le (by rw [← hU.1]; omega)]
  have ty : ys = ys.take m ++ [ys.getD m 0] := by rw [← take_snoc k2, List.take_of_length_le (by rw [← hW.1]; omega)]
  have nx : numB xs = numB (xs.take m) + 2 ^ m * xs.getD m 0 := by
    have h := numB_snoc (xs.take m) (xs.getD m 0)
    rw [← tx, List.length_take, Nat.min_eq_left (by omega)] at h
    exact h
  have ny : numB ys = numB (ys.take m) + 2 ^ m * ys.getD m 0 := by
    have h := numB_snoc (ys.take m) (ys.getD m 0)
    rw [← ty, List.length_take, Nat.min_eq_left (by omega)] at h
    exact h
  have hr := numB_range (hs.one hbit)
  rw [List.length_append, hl] at hr
  have hfin : numB xs + numB ys + f = numB (ss ++ [(xs.getD m 0 + ys.getD m 0 + c) % 2]) + 2 ^ (m + 1) * ((xs.getD m 0 + ys.getD m 0 + c) / 2) := by
    rw [numB_snoc, hl, nx, ny, Int.pow_succ]
    have e2 : (xs.getD m 0 + ys.getD m 0 + c) % 2 + 2 * ((xs.getD m 0 + ys.getD m 0 + c) / 2) = xs.getD m 0 + ys.getD m 0 + c := by omega
    generalize (xs.getD m 0 + ys.getD m 0 + c) % 2 = s at *
    generalize (xs.getD m 0 + ys.getD m 0 + c) / 2 = q at *
    generalize xs.getD m 0 = a at *
    generalize ys.getD m 0 = b at *
    generalize (2 : Int) ^ m = P at *
    clear hv hcv v1 v2 s1 s2 st hr tx ty nx ny
    grind
  rw [hfin, Int.add_mul_emod_self_left]
  exact (Int.emod_eq_of_lt hr.1 (by simpa using hr.2)).symm
end
end Go.Proofs.Ytccaaklgmdafpaa
