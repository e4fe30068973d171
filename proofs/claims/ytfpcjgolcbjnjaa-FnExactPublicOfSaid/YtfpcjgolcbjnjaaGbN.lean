/- Garbled circuits in plain numbers: their labels and tables, and that every label that the evaluation computes is that of the value of its wire. No condition. -/
import Derived.Test.YtfpcjgolcbjnjaaGbM
import Derived.Test.YtfpcjgolcbjnjaaCirM
namespace Go.Proofs.Ytfpcjgolcbjnjaa
open Go Go.RowKit
/-- A wire's label for 0, where zs says those of the wires before it. -/
def zro (s a d : Int) (zs : List Int) (n : Nat) (k x y : Int) : Int :=
  if k = 1 then izI s a x else if k = 2 then izI s a (1000 + n) else if k = 3 then lx (zs.getD x.toNat 0) (zs.getD y.toNat 0) else if k = 5 then lx (zs.getD x.toNat 0) d
  else evA n (zs.getD x.toNat 0) (zs.getD y.toNat 0) (tgI d n (zs.getD x.toNat 0) (zs.getD y.toNat 0)) (teI d n (zs.getD x.toNat 0) (zs.getD y.toNat 0))
/-- Its table entries. -/
def tbl (d : Int) (zs : List Int) (n : Nat) (k x y : Int) : List Int :=
  if k = 4 then [tgI d n (zs.getD x.toNat 0) (zs.getD y.toNat 0), teI d n (zs.getD x.toNat 0) (zs.getD y.toNat 0)] else []
/-- The first i gates: the labels for 0, and the tables. -/
def gbZ (z : List Int) (s a d : Int) : Nat → List Int
  | 0 => []
  | i + 1 => gbZ z s a d i ++ [zro s a d (gbZ z s a d i) i (gk z i) (ga z i) (gb z i)]
def gbT (z : List Int) (s a d : Int) : Nat → List Int
  | 0 => []
  | i + 1 => gbT z s a d i ++ tbl d (gbZ z s a d i) i (gk z i) (ga z i) (gb z i)
/-- The constants' labels. -/
def gbC (z zs : List Int) (d : Int) : Nat → List Int
  | 0 => []
  | i + 1 => gbC z zs d i ++ if gk z i = 2 then [lblI (zs.getD i 0) d (ga z i)] else []
/-- The labels of the wires that the evaluation computes. -/
def evW1 (n : Nat) (ws ts cs ls : List Int) (ands consts : Nat) (k x y : Int) : Int :=
  if k = 1 then ls.getD x.toNat 0 else if k = 2 then cs.getD consts 0 else if k = 3 then lx (ws.getD x.toNat 0) (ws.getD y.toNat 0) else if k = 5 then ws.getD x.toNat 0
  else evA n (ws.getD x.toNat 0) (ws.getD y.toNat 0) (ts.getD (2 * ands) 0) (ts.getD (2 * ands + 1) 0)
def evL (z ts cs ls : List Int) : Nat → List Int
  | 0 => []
  | i + 1 => evL z ts cs ls i ++ [evW1 i (evL z ts cs ls i) ts cs ls (cnt z 4 i) (cnt z 2 i) (gk z i) (ga z i) (gb z i)]
section
variable {z bs : List Int} {s a d : Int} {n : Nat}
theorem gbZ_length (z : List Int) (s a d : Int) (i : Nat) : (gbZ z s a d i).length = i := by
  induction i with
  | zero => rfl
  | succ i ih => simp [gbZ, ih]
theorem gbT_length (z : List Int) (s a d : Int) (i : Nat) : (gbT z s a d i).length = 2 * cnt z 4 i := by
  induction i with
  | zero => rfl
  | succ i ih =>
    simp only [gbT, cnt, List.length_append, ih, tbl]
    split <;> simp <;> omega
theorem gbC_length (z zs : List Int) (d : Int) (i : Nat) : (gbC z zs d i).length = cnt z 2 i := by
  induction i with
  | zero => rfl
  | succ i ih =>
    simp only [gbC, cnt, List.length_append, ih]
    split <;> simp
theorem evL_length (z ts cs ls : List Int) (i : Nat) : (evL z ts cs ls i).length = i := by
  induction i with
  | zero => rfl
  | succ i ih => simp [evL, ih]
theorem gbZ_pre (z : List Int) (s a d : Int) {i j k : Nat} (hij : i ≤ j) (hk : k < i) : (gbZ z s a d j).getD k 0 = (gbZ z s a d i).getD k 0 := by
  induction j with
  | zero => omega
  | succ j ih =>
    rcases Nat.lt_or_ge i (j + 1) with h | h
    · rw [gbZ, gD_left (by rw [gbZ_length]; omega)]
      exact ih (by omega)
    · rw [show i = j + 1 by omega]
theorem gbZ_at (z : List Int) (s a d : Int) {i n : Nat} (hi : i < n) : (gbZ z s a d n).getD i 0 = zro s a d (gbZ z s a d i) i (gk z i) (ga z i) (gb z i) := by
  rw [gbZ_pre z s a d (show i + 1 ≤ n by omega) (by omega), gbZ, gD_right (by rw [gbZ_length]; omega), gbZ_length, Nat.sub_self]
  rfl
/-- All labels for 0 are labels. -/
theorem gbZ_lbl (hg : gatesOk z n) (hn : n ≤ 6000) (ht : dOk s a) (hd : isLbl d) : ∀ i, i ≤ n → ∀ j, j < i → isLbl ((gbZ z s a d i).getD j 0) := by
  intro i
  induction i with
  | zero => intro _ j hj; omega
  | succ i ih =>
    intro hi j hj
    rcases Nat.lt_or_ge j i with h | h
    · rw [gbZ_pre z s a d (Nat.le_succ i) h]
      exact ih (by omega) j h
    · rw [show j = i by omega, gbZ_at z s a d (Nat.lt_succ_self i)]
      have I := ih (by omega)
      have ok := hg i (by omega)
      have h1 := ht.1
      unfold zro
      rcases ok with ⟨e, h2, h3⟩ | ⟨e, h2, h3⟩ | ⟨e | e, h2, h3⟩ | ⟨e, h2, h3⟩
      · rw [if_pos e]
        exact iz_lbl ⟨h1, by omega, by omega⟩
      · rw [if_neg (by omega), if_pos e]
        exact iz_lbl ⟨h1, by omega, by omega⟩
      · rw [if_neg (by omega), if_neg (by omega), if_pos e]
        exact lx_lbl (I _ (by omega)) (I _ (by omega))
      · rw [if_neg (by omega), if_neg (by omega), if_neg (by omega), if_neg (by omega)]
        have A := I (ga z i).toNat (by omega)
        have B := I (gb z i).toNat (by omega)
        exact evA_lbl (by omega) A B (tg_lbl (by omega) A hd) (te_lbl (by omega) A B hd)
      · rw [if_neg (by omega), if_neg (by omega), if_neg (by omega), if_pos e]
        exact lx_lbl (I _ (by omega)) hd
theorem gbT_pre (z : List Int) (s a d : Int) {i j k : Nat} (hij : i ≤ j) (hk : k < 2 * cnt z 4 i) : (gbT z s a d j).getD k 0 = (gbT z s a d i).getD k 0 := by
  induction j with
  | zero => rw [show i = 0 by omega]
  | succ j ih =>
    rcases Nat.lt_or_ge i (j + 1) with h | h
    · have := cnt_mono z 4 (show i ≤ j by omega)
      rw [gbT, gD_left (by rw [gbT_length]; omega)]
      exact ih (by omega)
    · rw [show i = j + 1 by omega]
/-- The two entries of an and gate. -/
theorem gbT_at (z : List Int) (s a d : Int) {i n : Nat} (hi : i < n) (h4 : gk z i = 4) :
    (gbT z s a d n).getD (2 * cnt z 4 i) 0 = tgI d i ((gbZ z s a d i).getD (ga z i).toNat 0) ((gbZ z s a d i).getD (gb z i).toNat 0) ∧ (gbT z s a d n).getD (2 * cnt z 4 i + 1) 0 = teI d i ((gbZ z s a d i).getD (ga z i).toNat 0) ((gbZ z s a d i).getD (gb z i).toNat 0) := by
  have e : cnt z 4 (i + 1) = cnt z 4 i + 1 := by simp only [cnt]; rw [if_pos h4]
  have hl := gbT_length z s a d i
  rw [gbT_pre z s a d (show i + 1 ≤ n by omega) (by omega), gbT_pre z s a d (show i + 1 ≤ n by omega) (by omega), gbT, gD_right (by omega), gD_right (by omega), hl, Nat.sub_self, show 2 * cnt z 4 i + 1 - 2 * cnt z 4 i = 1 by omega]
  unfold tbl
  rw [if_pos h4]
  exact ⟨rfl, rfl⟩
theorem gbT_lbl (hg : gatesOk z n) (hn : n ≤ 6000) (ht : dOk s a) (hd : isLbl d) : ∀ i, i ≤ n → ∀ x ∈ gbT z s a d i, isLbl x := by
  intro i
  induction i with
  | zero => intro _ x hx; simp [gbT] at hx
  | succ i ih =>
    intro hi x hx
    rw [gbT, List.mem_append] at hx
    rcases hx with hx | hx
    · exact ih (by omega) x hx
    · have I := gbZ_lbl hg hn ht hd i (by omega)
      have ok := hg i (by omega)
      unfold tbl at hx
      split at hx
      · rename_i h4
        have A := I (ga z i).toNat (by unfold gateOk at ok; omega)
        have B := I (gb z i).toNat (by unfold gateOk at ok; omega)
        simp only [List.mem_cons, List.not_mem_nil, or_false] at hx
        rcases hx with rfl | rfl
        · exact tg_lbl (by omega) A hd
        · exact te_lbl (by omega) A B hd
      · simp at hx
theorem gbC_pre (z zs : List Int) (d : Int) {i j k : Nat} (hij : i ≤ j) (hk : k < cnt z 2 i) : (gbC z zs d j).getD k 0 = (gbC z zs d i).getD k 0 := by
  induction j with
  | zero => rw [show i = 0 by omega]
  | succ j ih =>
    rcases Nat.lt_or_ge i (j + 1) with h | h
    · have := cnt_mono z 2 (show i ≤ j by omega)
      rw [gbC, gD_left (by rw [gbC_length]; omega)]
      exact ih (by omega)
    · rw [show i = j + 1 by omega]
theorem gbC_at (z zs : List Int) (d : Int) {i n : Nat} (hi : i < n) (h2 : gk z i = 2) : (gbC z zs d n).getD (cnt z 2 i) 0 = lblI (zs.getD i 0) d (ga z i) := by
  have e : cnt z 2 (i + 1) = cnt z 2 i + 1 := by simp only [cnt]; rw [if_pos h2]
  rw [gbC_pre z zs d (show i + 1 ≤ n by omega) (by omega), gbC, gD_right (by rw [gbC_length]; omega), gbC_length, Nat.sub_self, if_pos h2]
  rfl
theorem lbl_yes {z d v : Int} (hz : isLbl z) (hd : isLbl d) (hv : isBit v) : lblI z d v = if v = 1 then lx z d else z := if_pos ⟨hz, hd, hv⟩
/-- Exclusive or of labels denotes exclusive or of values. -/
theorem xor_right {x y d v u : Int} (hx : isLbl x) (hy : isLbl y) (hd : isLbl d) (hv : isBit v) (hu : isBit u) : lx (lblI x d v) (lblI y d u) = lblI (lx x y) d (if v = u then 0 else 1) := by
  obtain ⟨x, rfl⟩ := Int.eq_ofNat_of_zero_le hx.1
  obtain ⟨y, rfl⟩ := Int.eq_ofNat_of_zero_le hy.1
  obtain ⟨d, rfl⟩ := Int.eq_ofNat_of_zero_le hd.1
  rw [lbl_yes hx hd hv, lbl_yes hy hd hu, lbl_yes (lx_lbl hx hy) hd (by unfold isBit; split <;> omega)]
  unfold isBit at hv hu
  rcases (show v = 0 ∨ v = 1 by omega) with rfl | rfl <;> rcases (show u = 0 ∨ u = 1 by omega) with rfl | rfl
  · simp [lx_nat]
  · simp [lx_nat, Nat.xor_assoc]
  · simp [lx_nat, Nat.xor_comm, nxor_left]
  · simp [lx_nat, Nat.xor_comm, nxor_left]
theorem not_right {x d v : Int} (hx : isLbl x) (hd : isLbl d) (hv : isBit v) : lblI x d v = lblI (lx x d) d (1 - v) := by
  rw [lbl_yes hx hd hv, lbl_yes (lx_lbl hx hd) hd (by unfold isBit at *; omega)]
  obtain ⟨x, rfl⟩ := Int.eq_ofNat_of_zero_le hx.1
  obtain ⟨d, rfl⟩ := Int.eq_ofNat_of_zero_le hd.1
  unfold isBit at hv
  rcases (show v = 0 ∨ v = 1 by omega) with rfl | rfl
  · simp [lx_nat, Nat.xor_assoc]
  · simp [lx_nat]
/-- Every label that the evaluation computes is that of the value of its wire. -/
theorem every_wire {ls : List Int} (hg : gatesOk z n) (hn : n ≤ 6000) (ht : dOk s a) (hd : isLbl d) (h1 : d % 2 = 1) (hb : allBit bs) (hls : ∀ j, j < 80 → ls.getD j 0 = lblI (izI s a j) d (bs.getD j 0)) :
    ∀ i, i ≤ n → ∀ j, j < i → (evL z (gbT z s a d n) (gbC z (gbZ z s a d n) d n) ls i).getD j 0 = lblI ((gbZ z s a d n).getD j 0) d ((wv z bs n).getD j 0) := by
  intro i
  induction i with
  | zero => intro _ j hj; omega
  | succ i ih =>
    intro hi j hj
    rcases Nat.lt_or_ge j i with h | h
    · rw [evL, gD_left (by rw [evL_length]; omega)]
      exact ih (by omega) j h
    · have e : j = i := by omega
      subst e
      have I := ih (by omega)
      have hl := gbZ_lbl hg hn ht hd n (Nat.le_refl n)
      have ok := hg j (by omega)
      have hbv := fun x => (wv_bit hg hb n (Nat.le_refl n)).at_ x
      have zp := fun x (hx : x < j) => (gbZ_pre z s a d (show j ≤ n by omega) hx).symm
      rw [evL, gD_right (by rw [evL_length]; omega), evL_length, Nat.sub_self, wv_at hg (show j < n by omega), gbZ_at z s a d (show j < n by omega)]
      show evW1 _ _ _ _ _ _ _ _ _ _ = _
      have hT := gbT_at z s a d (show j < n by omega)
      have hC := gbC_at z (gbZ z s a d n) d (show j < n by omega)
      have hZ := gbZ_at z s a d (show j < n by omega)
      unfold evW1 zro gval
      unfold zro at hZ
      rcases ok with ⟨e, h2, h3⟩ | ⟨e, h2, h3⟩ | ⟨e | e, h2, h3⟩ | ⟨e, h2, h3⟩
      · rw [if_pos e, if_pos e, if_pos e, hls _ (by omega), Int.toNat_of_nonneg h2.1]
      · rw [if_neg (by omega), if_pos e, if_neg (by omega), if_pos e, if_neg (by omega), if_pos e, hC e, hZ, if_neg (by omega), if_pos e]
      · rw [if_neg (by omega), if_neg (by omega), if_pos e, if_neg (by omega), if_neg (by omega), if_pos e, if_neg (by omega), if_neg (by omega), if_pos e]
        rw [zp _ (by omega), zp _ (by omega), I _ (by omega), I _ (by omega)]
        exact xor_right (hl _ (by omega)) (hl _ (by omega)) hd (hbv _) (hbv _)
      · rw [if_neg (by omega), if_neg (by omega), if_neg (by omega), if_neg (by omega), if_neg (by omega), if_neg (by omega), if_neg (by omega), if_neg (by omega), if_neg (by omega), if_neg (by omega), if_neg (by omega), if_pos e]
        rw [(hT e).1, (hT e).2, zp _ (by omega), zp _ (by omega), I _ (by omega), I _ (by omega)]
        exact and_right (by omega) (hl _ (by omega)) (hl _ (by omega)) hd h1 (hbv _) (hbv _)
      · rw [if_neg (by omega), if_neg (by omega), if_neg (by omega), if_pos e, if_neg (by omega), if_neg (by omega), if_neg (by omega), if_pos e, if_neg (by omega), if_neg (by omega), if_neg (by omega), if_neg (by omega)]
        rw [zp _ (by omega), I _ (by omega)]
        exact not_right (hl _ (by omega)) hd (hbv _)
end
end Go.Proofs.Ytfpcjgolcbjnjaa
