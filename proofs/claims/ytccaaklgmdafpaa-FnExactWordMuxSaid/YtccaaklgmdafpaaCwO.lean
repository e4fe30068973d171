/- Circuit builders in plain numbers: their gates are valid, and how many and gates they have. No condition. -/
import Derived.Test.YtccaaklgmdafpaaProg
import Derived.Test.YtccaaklgmdafpaaCwM
namespace Go.Proofs.Ytccaaklgmdafpaa
open Go Go.RowKit
/-- What a builder leaves: gates behind those that there were, valid ones, k and gates among them. -/
structure Grw (z : List Int) (n : Nat) (z' : List Int) (n' k : Nat) : Prop where
  len : z'.length = n' * 3
  pre : ∃ y, z' = z ++ y
  le : n ≤ n'
  ok : gatesOk z n → gatesOk z' n'
  and_ : cnt z' 4 n' = cnt z 4 n + k
/-- A wire of n gates. -/
def Wr (n : Nat) (u : Int) : Prop := 0 ≤ u ∧ u < (n : Int)
instance (n : Nat) (u : Int) : Decidable (Wr n u) := by unfold Wr; infer_instance
def Wrs (n : Nat) (us : List Int) : Prop := ∀ i, i < us.length → Wr n (us.getD i 0)
section
variable {z z' z1 : List Int} {n n' n1 k k' : Nat} {a b c f u : Int} {us ws : List Int}
theorem Wr.mono (h : Wr n u) (e : n ≤ n') : Wr n' u := ⟨h.1, by have := h.2; omega⟩
theorem Wrs.mono (h : Wrs n us) (e : n ≤ n') : Wrs n' us := fun i hi => (h i hi).mono e
theorem Wrs.nil (n : Nat) : Wrs n [] := fun i hi => by simp at hi
theorem Wrs.snoc (h : Wrs n us) (hu : Wr n u) : Wrs n (us ++ [u]) := fun i hi => by
  rcases Nat.lt_or_ge i us.length with h1 | h1
  · rw [gD_left h1]; exact h i h1
  · have e : i = us.length := by simp at hi; omega
    subst e
    rw [gD_right (Nat.le_refl _), Nat.sub_self]
    exact hu
theorem Wrs.app (h : Wrs n us) (k : Wrs n ws) : Wrs n (us ++ ws) := fun i hi => by
  rcases Nat.lt_or_ge i us.length with h1 | h1
  · rw [gD_left h1]; exact h i h1
  · rw [gD_right h1]; exact k _ (by simp at hi; omega)
theorem Wrs.take (h : Wrs n us) (k : Nat) : Wrs n (us.take k) := fun i hi => by
  have h1 : i < k ∧ i < us.length := by simp at hi; omega
  rw [List.getD_eq_getElem?_getD, List.getElem?_take_of_lt h1.1, ← List.getD_eq_getElem?_getD]
  exact h i h1.2
theorem Wrs.drop (h : Wrs n us) (k : Nat) : Wrs n (us.drop k) := fun i hi => by
  have e := h (k + i) (by simp at hi; omega)
  simpa [List.getD_eq_getElem?_getD, List.getElem?_drop] using e
theorem Wrs.mem (h : Wrs n us) {x : Int} (hx : x ∈ us) : Wr n x := by
  obtain ⟨i, hi, e⟩ := mem_gD (d := 0) hx
  rw [← e]; exact h i hi
theorem Wrs.ok (h : Wrs n us) : wiresOk us n := fun _ hx => h.mem hx
theorem nG_wr (hz : z.length = n * 3) : Wr (n + 1) (nG z) := by rw [nG_is hz]; exact ⟨by omega, by omega⟩
theorem Grw.refl (hz : z.length = n * 3) : Grw z n z n 0 := ⟨hz, ⟨[], by simp⟩, Nat.le_refl _, id, rfl⟩
theorem Grw.trans (h : Grw z n z1 n1 k) (g : Grw z1 n1 z' n' k') : Grw z n z' n' (k + k') := by
  obtain ⟨y, e⟩ := h.pre
  obtain ⟨y', e'⟩ := g.pre
  exact ⟨g.len, ⟨y ++ y', by rw [e', e, List.append_assoc]⟩, Nat.le_trans h.le g.le, fun x => g.ok (h.ok x), by rw [g.and_, h.and_]; omega⟩
theorem Grw.is (h : Grw z n z' n' k) (e : k = k') : Grw z n z' n' k' := e ▸ h
theorem Grw.put (h : Grw z n z' n' k) {q : Int} (hg : gateOk q a b n') : Grw z n (putG z' q a b) (n' + 1) (k + if q = 4 then 1 else 0) := by
  obtain ⟨y, e⟩ := h.pre
  obtain ⟨e1, _, _⟩ := gate_last q a b h.len
  refine ⟨putG_length q a b h.len, ⟨y ++ [q, a, b], by simp [putG, e]⟩, by have := h.le; omega, fun x => gatesOk_snoc h.len (h.ok x) hg, ?_⟩
  unfold putG
  rw [cnt, cnt_left h.len n' (Nat.le_refl _), e1, h.and_, Nat.add_assoc]
theorem gok_const (h : isBit a) : gateOk 2 a 0 n := .inr (.inl ⟨rfl, h, rfl⟩)
theorem gok_xor (ha : Wr n a) (hb : Wr n b) : gateOk 3 a b n := .inr (.inr (.inl ⟨.inl rfl, ha, hb⟩))
theorem gok_and (ha : Wr n a) (hb : Wr n b) : gateOk 4 a b n := .inr (.inr (.inl ⟨.inr rfl, ha, hb⟩))
theorem gok_not (ha : Wr n a) : gateOk 5 a 0 n := .inr (.inr (.inr ⟨rfl, ha, rfl⟩))
theorem full_grw (hz : z.length = n * 3) (ha : Wr n a) (hb : Wr n b) (hc : Wr n c) : Grw z n (fullA z a b c).1 (n + 5) 1 ∧ Wr (n + 5) (fullA z a b c).2.1 ∧ Wr (n + 5) (fullA z a b c).2.2 := by
  have g1 := (Grw.refl hz).put (gok_xor ha hc)
  have x1 := nG_wr hz
  have g2 := g1.put (gok_xor (hb.mono g1.le) (hc.mono g1.le))
  have x2 := nG_wr g1.len
  have g3 := g2.put (gok_xor (ha.mono g2.le) x2)
  have x3 := nG_wr g2.len
  have g4 := g3.put (gok_and (x1.mono (by omega)) (x2.mono (by omega)))
  have x4 := nG_wr g3.len
  have g5 := g4.put (gok_xor x4 (hc.mono g4.le))
  exact ⟨g5.is rfl, x3.mono (by omega), nG_wr g4.len⟩
theorem sumAt_grw (hz : z.length = n * 3) (hU : Wrs n us) (hW : Wrs n ws) (hf : isBit f) : ∀ m, m ≤ us.length → m ≤ ws.length →
    Grw z n (sumAt z us ws f m).1 (n + 1 + 5 * m) m ∧ (sumAt z us ws f m).2.1.length = m ∧ Wrs (n + 1 + 5 * m) (sumAt z us ws f m).2.1 ∧ Wr (n + 1 + 5 * m) (sumAt z us ws f m).2.2 := by
  intro m
  induction m with
  | zero => exact fun _ _ => ⟨((Grw.refl hz).put (gok_const hf)).is rfl, rfl, Wrs.nil _, nG_wr hz⟩
  | succ m ih =>
    intro h1 h2
    obtain ⟨g, hl, hs, hc⟩ := ih (by omega) (by omega)
    obtain ⟨g2, v1, v2⟩ := full_grw g.len ((hU m (by omega)).mono g.le) ((hW m (by omega)).mono g.le) hc
    exact ⟨(g.trans g2).is rfl, by simp [sumAt, hl], (hs.mono (by omega)).snoc v1, v2⟩
theorem sumA_grw (hz : z.length = n * 3) (hU : Wrs n us) (hW : Wrs n ws) (hf : isBit f) {m : Nat} (lu : us.length = m + 1) (lw : ws.length = m + 1) :
    Grw z n (sumA z us ws f m).1 (n + 1 + 5 * m + 1 + 1) m ∧ (sumA z us ws f m).2.length = m + 1 ∧ Wrs (n + 1 + 5 * m + 1 + 1) (sumA z us ws f m).2 := by
  obtain ⟨g, hl, hs, hc⟩ := sumAt_grw hz hU hW hf m (by omega) (by omega)
  have g1 := g.put (gok_xor ((hU m (by omega)).mono g.le) ((hW m (by omega)).mono g.le))
  have g2 := g1.put (gok_xor (nG_wr g.len) (hc.mono (by omega)))
  exact ⟨g2.is rfl, by simp [sumA, hl], (hs.mono (by omega)).snoc (nG_wr g1.len)⟩
theorem notsAt_grw (hz : z.length = n * 3) (hW : Wrs n ws) : ∀ m, m ≤ ws.length → Grw z n (notsAt z ws m).1 (n + m) 0 ∧ (notsAt z ws m).2.length = m ∧ Wrs (n + m) (notsAt z ws m).2 := by
  intro m
  induction m with
  | zero => exact fun _ => ⟨Grw.refl hz, rfl, Wrs.nil _⟩
  | succ m ih =>
    intro h
    obtain ⟨g, hl, hs⟩ := ih (by omega)
    exact ⟨(g.put (gok_not ((hW m (by omega)).mono g.le))).is rfl, by simp [notsAt, hl], (hs.mono (by omega)).snoc (nG_wr g.len)⟩
theorem constAt_grw (v : Int) (hz : z.length = n * 3) : ∀ m, Grw z n (constAt z v m).1 (n + m) 0 ∧ (constAt z v m).2.length = m ∧ Wrs (n + m) (constAt z v m).2 := by
  intro m
  induction m with
  | zero => exact ⟨Grw.refl hz, rfl, Wrs.nil _⟩
  | succ m ih =>
    obtain ⟨g, hl, hs⟩ := ih
    exact ⟨(g.put (gok_const (by unfold isBit; omega))).is rfl, by simp [constAt, hl], (hs.mono (by omega)).snoc (nG_wr g.len)⟩
theorem carryAt_grw (hz : z.length = n * 3) (hU : Wrs n us) (hW : Wrs n ws) : ∀ m, m ≤ us.length → m ≤ ws.length → Grw z n (carryAt z us ws m).1 (n + 1 + 5 * m) m ∧ Wr (n + 1 + 5 * m) (carryAt z us ws m).2 := by
  intro m
  induction m with
  | zero => exact fun _ _ => ⟨((Grw.refl hz).put (gok_const (by unfold isBit; omega))).is rfl, nG_wr hz⟩
  | succ m ih =>
    intro h1 h2
    obtain ⟨g, hc⟩ := ih (by omega) (by omega)
    obtain ⟨g2, v1, v2⟩ := full_grw g.len ((hU m (by omega)).mono g.le) ((hW m (by omega)).mono g.le) hc
    exact ⟨(g.trans g2).is rfl, v2⟩
theorem lessA_grw (hz : z.length = n * 3) (hU : Wrs n us) (hW : Wrs n ws) (lu : us.length = 4) (lw : ws.length = 4) : Grw z n (lessA z us ws).1 (n + 4 + 1 + 5 * 4 + 1) 4 ∧ Wr (n + 4 + 1 + 5 * 4 + 1) (lessA z us ws).2 := by
  obtain ⟨g, hl, hs⟩ := notsAt_grw hz hW 4 (by omega)
  obtain ⟨g2, hc⟩ := carryAt_grw g.len (hU.mono g.le) hs 4 (by omega) (by omega)
  exact ⟨((g.trans g2).put (gok_not hc)).is rfl, nG_wr g2.len⟩
theorem xnorAt_grw (hz : z.length = n * 3) (hU : Wrs n us) (hW : Wrs n ws) : ∀ m, m ≤ us.length → m ≤ ws.length → Grw z n (xnorAt z us ws m).1 (n + 2 * m) 0 ∧ (xnorAt z us ws m).2.length = m ∧ Wrs (n + 2 * m) (xnorAt z us ws m).2 := by
  intro m
  induction m with
  | zero => exact fun _ _ => ⟨Grw.refl hz, rfl, Wrs.nil _⟩
  | succ m ih =>
    intro h1 h2
    obtain ⟨g, hl, hs⟩ := ih (by omega) (by omega)
    have g1 := g.put (gok_xor ((hU m (by omega)).mono g.le) ((hW m (by omega)).mono g.le))
    exact ⟨(g1.put (gok_not (nG_wr g.len))).is rfl, by simp [xnorAt, hl], (hs.mono (by omega)).snoc (nG_wr g1.len)⟩
theorem andAt_grw (hz : z.length = n * 3) (hU : Wrs n us) : ∀ m, m < us.length → Grw z n (andAt z us m).1 (n + m) m ∧ Wr (n + m) (andAt z us m).2 := by
  intro m
  induction m with
  | zero => exact fun h => ⟨Grw.refl hz, hU 0 h⟩
  | succ m ih =>
    intro h
    obtain ⟨g, hc⟩ := ih (by omega)
    exact ⟨(g.put (gok_and hc ((hU (m + 1) h).mono g.le))).is rfl, nG_wr g.len⟩
theorem equalA_grw (hz : z.length = n * 3) (hU : Wrs n us) (hW : Wrs n ws) (lu : us.length = 4) (lw : ws.length = 4) : Grw z n (equalA z us ws).1 (n + 2 * 4 + 3) 3 ∧ Wr (n + 2 * 4 + 3) (equalA z us ws).2 := by
  obtain ⟨g, hl, hs⟩ := xnorAt_grw hz hU hW 4 (by omega) (by omega)
  obtain ⟨g2, hc⟩ := andAt_grw g.len hs 3 (by omega)
  exact ⟨(g.trans g2).is rfl, hc⟩
theorem muxAt_grw {s : Int} (hz : z.length = n * 3) (hs : Wr n s) (hU : Wrs n us) (hW : Wrs n ws) : ∀ m, m ≤ us.length → m ≤ ws.length → Grw z n (muxAt z s us ws m).1 (n + 3 * m) m ∧ (muxAt z s us ws m).2.length = m ∧ Wrs (n + 3 * m) (muxAt z s us ws m).2 := by
  intro m
  induction m with
  | zero => exact fun _ _ => ⟨Grw.refl hz, rfl, Wrs.nil _⟩
  | succ m ih =>
    intro h1 h2
    obtain ⟨g, hl, hq⟩ := ih (by omega) (by omega)
    have g1 := g.put (gok_xor ((hU m (by omega)).mono g.le) ((hW m (by omega)).mono g.le))
    have g2 := g1.put (gok_and (hs.mono g1.le) (nG_wr g.len))
    exact ⟨(g2.put (gok_xor (nG_wr g1.len) ((hW m (by omega)).mono g2.le))).is rfl, by simp [muxAt, hl], (hq.mono (by omega)).snoc (nG_wr g2.len)⟩
theorem prodAt_grw (hz : z.length = n * 3) (hb : Wr n b) (hU : Wrs n us) : ∀ m, m ≤ us.length → Grw z n (prodAt z b us m).1 (n + m) m ∧ (prodAt z b us m).2.length = m ∧ Wrs (n + m) (prodAt z b us m).2 := by
  intro m
  induction m with
  | zero => exact fun _ => ⟨Grw.refl hz, rfl, Wrs.nil _⟩
  | succ m ih =>
    intro h
    obtain ⟨g, hl, hs⟩ := ih (by omega)
    exact ⟨(g.put (gok_and (hb.mono g.le) ((hU m (by omega)).mono g.le))).is rfl, by simp [prodAt, hl], (hs.mono (by omega)).snoc (nG_wr g.len)⟩
/-- How many gates and and gates the product has after row i. -/
def mulN : Nat → Nat
  | 0 => 4
  | i + 1 => mulN i + (4 - (i + 1)) + 1 + 5 * (3 - (i + 1)) + 1 + 1
def mulC : Nat → Nat
  | 0 => 4
  | i + 1 => mulC i + (4 - (i + 1)) + (3 - (i + 1))
theorem mulAt_grw (hz : z.length = n * 3) (hU : Wrs n us) (hW : Wrs n ws) (lu : us.length = 4) (lw : ws.length = 4) : ∀ i, i ≤ 3 →
    Grw z n (mulAt z us ws i).1 (n + mulN i) (mulC i) ∧ (mulAt z us ws i).2.length = 4 ∧ Wrs (n + mulN i) (mulAt z us ws i).2 := by
  intro i
  induction i with
  | zero => exact fun _ => prodAt_grw hz (hW 0 (by omega)) hU 4 (by omega)
  | succ i ih =>
    intro hi
    obtain ⟨g, hl, hs⟩ := ih (by omega)
    obtain ⟨g1, hl1, hs1⟩ := prodAt_grw g.len ((hW (i + 1) (by omega)).mono g.le) (hU.mono g.le) (4 - (i + 1)) (by omega)
    have hs2 := hs.mono g1.le
    obtain ⟨g2, hl2, hs3⟩ := sumA_grw g1.len (hs2.drop (i + 1)) hs1 (f := 0) (by unfold isBit; omega) (m := 3 - (i + 1)) (by rw [List.length_drop, hl]; omega) (by rw [hl1]; omega)
    have g3 := (g.trans g1).trans g2
    refine ⟨?_, ?_, ?_⟩
    · have e : n + mulN (i + 1) = n + mulN i + (4 - (i + 1)) + 1 + 5 * (3 - (i + 1)) + 1 + 1 := by simp only [mulN]; omega
      rw [e]
      exact g3.is rfl
    · show ((mulAt z us ws i).2.take (i + 1) ++ _).length = 4
      rw [List.length_append, List.length_take, hl, hl2]; omega
    · have e : n + mulN (i + 1) = n + mulN i + (4 - (i + 1)) + 1 + 5 * (3 - (i + 1)) + 1 + 1 := by simp only [mulN]; omega
      rw [e]
      exact (hs2.mono (by omega)).take (i + 1) |>.app hs3
end
end Go.Proofs.Ytccaaklgmdafpaa
