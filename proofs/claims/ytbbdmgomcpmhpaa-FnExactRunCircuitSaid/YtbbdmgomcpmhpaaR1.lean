/- Interpretation in plain numbers: states, operations, steps, runs; what an output does not depend on. No condition. And what goes with it. -/
import Derived.Test.YtbbdmgomcpmhpaaF1
import Derived.Test.YtbbdmgomcpmhpaaRegV
import Derived.Test.YtbbdmgomcpmhpaaProg
import Derived.Test.YtbbdmgomcpmhpaaIntSS
import Derived.Test.YtbbdmgomcpmhpaaB1
namespace Go.Proofs.Ytbbdmgomcpmhpaa
open Go Go.RowKit
/-- Numbers of four bits. -/
def stOk (rs os : List Int) : Prop := rs.length = 8 ∧ all4 rs ∧ all4 os
instance (rs os : List Int) : Decidable (stOk rs os) := by unfold stOk; infer_instance
def rowOk (r : List Int) : Prop := r.length = 4 ∧ all4 r
instance (r : List Int) : Decidable (rowOk r) := by unfold rowOk; infer_instance
def insOk (I : List (List Int)) : Prop := I.length = 5 ∧ ∀ r ∈ I, rowOk r
instance (I : List (List Int)) : Decidable (insOk I) := by unfold insOk; infer_instance
theorem all4.nil : all4 [] := fun z h => by simp at h
theorem all4.zeros (k : Nat) : all4 (List.replicate k 0) := fun z h => by
  have := List.eq_of_mem_replicate h
  omega
theorem all4.set {l : List Int} (h : all4 l) (k : Nat) {x : Int} (hx : 0 ≤ x ∧ x ≤ 15) : all4 (l.set k x) := fun z hz => by
  rcases List.mem_or_eq_of_mem_set hz with hz | rfl
  · exact h z hz
  · exact hx
theorem all4.app {a b : List Int} (ha : all4 a) (hb : all4 b) : all4 (a ++ b) := fun z hz => (List.mem_append.1 hz).elim (ha z) (hb z)
theorem all4.one {x : Int} (hx : 0 ≤ x ∧ x ≤ 15) : all4 [x] := fun z hz => by simp at hz; subst hz; exact hx
/-- Which number is the first that has not four bits: a search's progress. -/
theorem rows_no {I : List (List Int)} {k : Nat} (hk : k < I.length) (h : ¬ rowOk (I.getD k [])) : ¬ ∀ r ∈ I, rowOk r := fun a => h (by
  rw [List.getD_eq_getElem?_getD, List.getElem?_eq_getElem hk]
  exact a _ (List.getElem_mem hk))
theorem rows_of {I : List (List Int)} (h : ∀ k, k < I.length → rowOk (I.getD k [])) : ∀ r ∈ I, rowOk r := fun z hz => by
  obtain ⟨k, hk, rfl⟩ := List.getElem_of_mem hz
  have := h k hk
  rwa [List.getD_eq_getElem?_getD, List.getElem?_eq_getElem hk] at this
theorem insOk.row {I : List (List Int)} (h : insOk I) {k : Nat} (hk : k < 5) : rowOk (I.getD k []) := by
  have hk' : k < I.length := by rw [h.1]; exact hk
  rw [List.getD_eq_getElem?_getD, List.getElem?_eq_getElem hk']
  exact h.2 _ (List.getElem_mem hk')
/-- The operations of the language. -/
def operI (op a b : Int) : Int :=
  if (0 ≤ a ∧ a ≤ 15) ∧ 0 ≤ b ∧ b ≤ 15 then
    if op = 3 then bits .and .i64 (a + b) 15 else if op = 4 then bits .and .i64 (a - b) 15 else if op = 5 then bits .and .i64 (a * b) 15 else
    if op = 6 then bits .and .i64 a b else if op = 7 then bits .xor .i64 a b else
    if op = 8 then (if a < b then 1 else 0) else if op = 9 then (if a = b then 1 else 0) else -1
  else -1
theorem bits_fin : ∀ a b : Fin 16, (0 ≤ bits .and .i64 (a.val : Int) (b.val : Int) ∧ bits .and .i64 (a.val : Int) (b.val : Int) ≤ 15) ∧ (0 ≤ bits .xor .i64 (a.val : Int) (b.val : Int) ∧ bits .xor .i64 (a.val : Int) (b.val : Int) ≤ 15) := by decide +kernel
theorem bits_four {a b : Int} (ha : 0 ≤ a ∧ a ≤ 15) (hb : 0 ≤ b ∧ b ≤ 15) : (0 ≤ bits .and .i64 a b ∧ bits .and .i64 a b ≤ 15) ∧ (0 ≤ bits .xor .i64 a b ∧ bits .xor .i64 a b ≤ 15) := by
  have h := bits_fin ⟨a.toNat, by omega⟩ ⟨b.toNat, by omega⟩
  simpa only [Int.toNat_of_nonneg ha.1, Int.toNat_of_nonneg hb.1] using h
theorem operI_in {op a b : Int} (ha : 0 ≤ a ∧ a ≤ 15) (hb : 0 ≤ b ∧ b ≤ 15) : operI op a b =
    if op = 3 then bits .and .i64 (a + b) 15 else if op = 4 then bits .and .i64 (a - b) 15 else if op = 5 then bits .and .i64 (a * b) 15 else
    if op = 6 then bits .and .i64 a b else if op = 7 then bits .xor .i64 a b else
    if op = 8 then (if a < b then 1 else 0) else if op = 9 then (if a = b then 1 else 0) else -1 := if_pos ⟨ha, hb⟩
def four (x : Int) : Prop := 0 ≤ x ∧ x ≤ 15
theorem four_if {p : Prop} [Decidable p] {x y : Int} (hx : p → four x) (hy : ¬ p → four y) : four (if p then x else y) := by
  by_cases h : p
  · rw [if_pos h]; exact hx h
  · rw [if_neg h]; exact hy h
theorem oper_four {op a b : Int} (ho : 3 ≤ op ∧ op ≤ 9) (ha : 0 ≤ a ∧ a ≤ 15) (hb : 0 ≤ b ∧ b ≤ 15) : 0 ≤ operI op a b ∧ operI op a b ≤ 15 := by
  have h15 : ∀ x : Int, four (bits .and .i64 x 15) := fun x => and_range x 15 (by omega)
  rw [operI_in ha hb]
  exact four_if (fun _ => h15 _) fun h3 => four_if (fun _ => h15 _) fun h4 => four_if (fun _ => h15 _) fun h5 => four_if (fun _ => (bits_four ha hb).1) fun h6 => four_if (fun _ => (bits_four ha hb).2) fun h7 =>
    four_if (fun _ => four_if (fun _ => ⟨by decide, by decide⟩) (fun _ => ⟨by decide, by decide⟩)) fun h8 => four_if (fun _ => four_if (fun _ => ⟨by decide, by decide⟩) (fun _ => ⟨by decide, by decide⟩)) fun h9 => by omega
/-- The number that a statement computes. -/
def valI (rs : List Int) (I : List (List Int)) (op a b c n : Int) : Int :=
  if op = 1 then n else if op = 2 then (I.getD a.toNat []).getD n.toNat 0 else
  if op = 10 then (if bits .and .i64 (rs.getD a.toNat 0) 1 = 1 then rs.getD b.toNat 0 else rs.getD c.toNat 0) else
  operI op (rs.getD a.toNat 0) (rs.getD b.toNat 0)
/-- The step does something. -/
def goes (rs os : List Int) (I : List (List Int)) (op d a b c n : Int) : Prop := okI op d a b c n ∧ stOk rs os ∧ insOk I
instance (rs os : List Int) (I : List (List Int)) (op d a b c n : Int) : Decidable (goes rs os I op d a b c n) := by unfold goes; infer_instance
def stepR (rs os : List Int) (I : List (List Int)) (op d a b c n : Int) : List Int :=
  if goes rs os I op d a b c n ∧ op ≤ 10 then rs.set d.toNat (valI rs I op a b c n) else rs
def stepO (rs os : List Int) (I : List (List Int)) (op d a b c n : Int) : List Int :=
  if goes rs os I op d a b c n ∧ op = 11 then os ++ [rs.getD a.toNat 0] else os
def runAll (ss : List St) (rs os : List Int) (I : List (List Int)) : List Int × List Int := match ss with
  | [] => (rs, os)
  | s :: ss => runAll ss (stepR rs os I s.op s.d s.a s.b s.c s.n) (stepO rs os I s.op s.d s.a s.b s.c s.n) I
section
variable {rs os fs fo : List Int} {I : List (List Int)} {op d a b c n : Int}
theorem stepR_yes (g : goes rs os I op d a b c n) (h : op ≤ 10) : stepR rs os I op d a b c n = rs.set d.toNat (valI rs I op a b c n) := if_pos ⟨g, h⟩
theorem stepR_no (h : ¬ (goes rs os I op d a b c n ∧ op ≤ 10)) : stepR rs os I op d a b c n = rs := if_neg h
theorem stepO_yes (g : goes rs os I op d a b c n) (h : op = 11) : stepO rs os I op d a b c n = os ++ [rs.getD a.toNat 0] := if_pos ⟨g, h⟩
theorem stepO_no (h : ¬ (goes rs os I op d a b c n ∧ op = 11)) : stepO rs os I op d a b c n = os := if_neg h
theorem flowR_yes (h0 : okI op d a b c n) (l : fs.length = 8) (h : op ≤ 10) : flowR fs op d a b c n = fs.set d.toNat (if op = 2 then bitP a else orAll fs (readsI op a b c) 0) := if_pos ⟨h0, l, h⟩
theorem flowR_no (h : ¬ op ≤ 10) : flowR fs op d a b c n = fs := if_neg (fun e => h e.2.2)
theorem flowO_yes (h0 : okI op d a b c n) (l : fs.length = 8) (h : op = 11) : flowO fs fo op d a b c n = fo ++ [fs.getD a.toNat 0] := if_pos ⟨h0, l, h⟩
theorem flowO_no (h : ¬ op = 11) : flowO fs fo op d a b c n = fo := if_neg (fun e => h e.2.2)
end
theorem runAll_step {ss : List St} {k : Nat} (hk : k < ss.length) {op d a b c n : Int} (e : ss.getD k s0 = ⟨op, d, a, b, c, n⟩) (rs os : List Int) (I : List (List Int)) :
    runAll (ss.drop k) rs os I = runAll (ss.drop (k + 1)) (stepR rs os I op d a b c n) (stepO rs os I op d a b c n) I := by
  rw [drop_at hk e]; rfl
theorem runAll_end (ss : List St) (rs os : List Int) (I : List (List Int)) : runAll (ss.drop ss.length) rs os I = (rs, os) := by rw [List.drop_length]; rfl
def outI (ss : List St) (I : List (List Int)) : List Int := (runAll ss (List.replicate 8 0) [] I).2
def runOk (ss : List St) (I : List (List Int)) : Prop := unrI ss ∧ insOk I
instance (ss : List St) (I : List (List Int)) : Decidable (runOk ss I) := by unfold runOk; infer_instance
def runI (ss : List St) (I : List (List Int)) : List Int := if runOk ss I then outI (unrollL ss) I else []
theorem stOk.start : stOk (List.replicate 8 0) [] := ⟨by simp, all4.zeros 8, all4.nil⟩
section
variable {rs os : List Int} {I : List (List Int)} {op d a b c n : Int}
theorem val_four (hok : okI op d a b c n) (h10 : op ≤ 10) (hs : stOk rs os) (hi : insOk I) : 0 ≤ valI rs I op a b c n ∧ valI rs I op a b c n ≤ 15 := by
  unfold valI
  split
  · unfold okI at hok; omega
  · split
    · have h4 : 0 ≤ a ∧ a ≤ 4 := by unfold okI at hok; omega
      exact (hi.row (show a.toNat < 5 by omega)).2.at_ _
    · split
      · split
        · exact hs.2.1.at_ _
        · exact hs.2.1.at_ _
      · exact oper_four (by unfold okI at hok; omega) (hs.2.1.at_ _) (hs.2.1.at_ _)
theorem stepR_length : (stepR rs os I op d a b c n).length = rs.length := by
  unfold stepR
  split
  · simp
  · rfl
theorem stepO_length : (stepO rs os I op d a b c n).length ≤ os.length + 1 := by
  unfold stepO
  split <;> simp
theorem step_ok (hs : stOk rs os) : stOk (stepR rs os I op d a b c n) (stepO rs os I op d a b c n) := by
  refine ⟨by rw [stepR_length]; exact hs.1, ?_, ?_⟩
  · unfold stepR
    split
    · rename_i h
      exact hs.2.1.set _ (val_four h.1.1 h.2 hs h.1.2.2)
    · exact hs.2.1
  · unfold stepO
    split
    · exact hs.2.2.app (all4.one (hs.2.1.at_ _))
    · exact hs.2.2
/-- A register that a step does not set stays. -/
theorem step_keeps {k : Nat} (h : (k : Int) ≠ writesOf op d a b c n) : (stepR rs os I op d a b c n).getD k 0 = rs.getD k 0 := by
  unfold stepR
  split
  · rename_i hg
    have hd : 0 ≤ d := by have h1 := hg.1.1; have h2 := hg.2; unfold okI isReg at h1; omega
    unfold writesOf at h
    rw [if_pos ⟨hg.1.1, hg.2⟩] at h
    rw [List.getD_eq_getElem?_getD, List.getD_eq_getElem?_getD, List.getElem?_set_ne (by omega)]
  · rfl
end
theorem runAll_ok (ss : List St) {rs os : List Int} {I : List (List Int)} (hs : stOk rs os) : stOk (runAll ss rs os I).1 (runAll ss rs os I).2 := by
  induction ss generalizing rs os with
  | nil => exact hs
  | cons s ss ih => exact ih (step_ok hs)
theorem runAll_length (ss : List St) (rs os : List Int) (I : List (List Int)) : (runAll ss rs os I).2.length ≤ os.length + ss.length := by
  induction ss generalizing rs os with
  | nil => simp [runAll]
  | cons s ss ih =>
    have h1 := ih (stepR rs os I s.op s.d s.a s.b s.c s.n) (stepO rs os I s.op s.d s.a s.b s.c s.n)
    have h2 := stepO_length (rs := rs) (os := os) (I := I) (op := s.op) (d := s.d) (a := s.a) (b := s.b) (c := s.c) (n := s.n)
    simp only [runAll, List.length_cons]
    omega
theorem runI_length (ss : List St) (I : List (List Int)) : (runI ss I).length ≤ 120 := by
  unfold runI
  split
  · rename_i h
    have := runAll_length (unrollL ss) (List.replicate 8 0) [] I
    have := h.1.2
    unfold outI
    simp at *
    omega
  · simp
/-- Where every statement is valid, there is an output for each out. -/
theorem runAll_outs {ss : List St} (hok : ∀ s ∈ ss, s.ok) {rs os : List Int} {I : List (List Int)} (hs : stOk rs os) (hi : insOk I) : (runAll ss rs os I).2.length = os.length + outs ss := by
  induction ss generalizing rs os with
  | nil => rfl
  | cons s ss ih =>
    have h0 : okI s.op s.d s.a s.b s.c s.n := hok s (List.mem_cons_self)
    simp only [runAll, outs]
    rw [ih (fun t ht => hok t (List.mem_cons_of_mem _ ht)) (step_ok hs)]
    unfold stepO
    by_cases h : s.op = 11
    · rw [if_pos ⟨⟨h0, hs, hi⟩, h⟩, if_pos h]; simp; omega
    · rw [if_neg (fun e => h e.2), if_neg h]; omega
theorem runI_outs {ss : List St} {I : List (List Int)} (h : runOk ss I) : (runI ss I).length = outs (unrollL ss) := by
  unfold runI
  rw [if_pos h]
  unfold outI
  rw [runAll_outs (unroll_ok h.1.1) stOk.start h.2]
  simp
/-- Party p is not in the set z. -/
def clr (p : Nat) (z : Int) : Prop := z.toNat / 2 ^ p % 2 = 0
instance (p : Nat) (z : Int) : Decidable (clr p z) := by unfold clr; infer_instance
theorem clr_or_fin : ∀ p : Fin 3, ∀ a b : Fin 32, clr p.val (bits .or .i64 (a.val : Int) (b.val : Int)) → clr p.val (a.val : Int) ∧ clr p.val (b.val : Int) := by decide +kernel
theorem clr_or {p : Nat} (hp : p < 3) {a b : Int} (ha : 0 ≤ a ∧ a ≤ 31) (hb : 0 ≤ b ∧ b ≤ 31) (h : clr p (bits .or .i64 a b)) : clr p a ∧ clr p b := by
  have h2 := clr_or_fin ⟨p, hp⟩ ⟨a.toNat, by omega⟩ ⟨b.toNat, by omega⟩
  simp only [Int.toNat_of_nonneg ha.1, Int.toNat_of_nonneg hb.1] at h2
  exact h2 h
theorem clr_bit {p : Nat} (hp : p < 3) {a : Int} (ha : 0 ≤ a ∧ a ≤ 4) (h : clr p (bitP a)) : a.toNat ≠ p := by
  have h5 : a = 0 ∨ a = 1 ∨ a = 2 ∨ a = 3 ∨ a = 4 := by omega
  have h3 : p = 0 ∨ p = 1 ∨ p = 2 := by omega
  rcases h5 with rfl | rfl | rfl | rfl | rfl <;> rcases h3 with rfl | rfl | rfl <;> revert h <;> decide
theorem clr_all {p : Nat} (hp : p < 3) {fs : List Int} (hf : five fs) {l : List Int} {z : Int} (hz : 0 ≤ z ∧ z ≤ 31) (h : clr p (orAll fs l z)) : clr p z ∧ ∀ r ∈ l, clr p (fs.getD r.toNat 0) := by
  induction l generalizing z with
  | nil => exact ⟨h, fun r hr => by simp at hr⟩
  | cons x l ih =>
    have h1 := ih (or_five hz (hf.at_ _)).1 h
    have h2 := clr_or hp hz (hf.at_ _) h1.1
    refine ⟨h2.1, fun r hr => ?_⟩
    rcases List.mem_cons.1 hr with rfl | hr
    · exact h2.2
    · exact h1.2 r hr
/-- Registers (or outputs) whose sets lack party p have the same numbers in both runs. -/
def agree (p : Nat) (fs rs rs' : List Int) : Prop := ∀ k, k < fs.length → clr p (fs.getD k 0) → rs.getD k 0 = rs'.getD k 0
/-- The two inputs differ at party p at most. -/
def sameBut (p : Nat) (I J : List (List Int)) : Prop := ∀ k, k ≠ p → I.getD k [] = J.getD k []
section
variable {p : Nat} {I J : List (List Int)} {fs fo rs os rs' os' : List Int} {op d a b c n : Int}
theorem agree.set {x y z : Int} {k : Nat} (h : agree p fs rs rs') (l1 : rs.length = fs.length) (l2 : rs'.length = fs.length) (hz : clr p z → x = y) : agree p (fs.set k z) (rs.set k x) (rs'.set k y) := fun i hi hc => by
  rw [List.length_set] at hi
  by_cases e : k = i
  · subst e
    simp only [List.getD_eq_getElem?_getD, List.getElem?_set_self hi, List.getElem?_set_self (by omega : k < rs.length), List.getElem?_set_self (by omega : k < rs'.length), Option.getD_some] at *
    exact hz hc
  · have := h i hi
    simp only [List.getD_eq_getElem?_getD, List.getElem?_set_ne e] at *
    exact this hc
theorem agree.app {x y z : Int} (h : agree p fs rs rs') (l1 : rs.length = fs.length) (l2 : rs'.length = fs.length) (hz : clr p z → x = y) : agree p (fs ++ [z]) (rs ++ [x]) (rs' ++ [y]) := fun i hi hc => by
  simp only [List.length_append, List.length_cons, List.length_nil] at hi
  rcases Nat.lt_or_ge i fs.length with h1 | h1
  · have := h i h1
    simp only [List.getD_eq_getElem?_getD, List.getElem?_append_left h1, List.getElem?_append_left (by omega : i < rs.length), List.getElem?_append_left (by omega : i < rs'.length)] at *
    exact this hc
  · obtain rfl : i = fs.length := by omega
    have e1 : (rs ++ [x])[fs.length]? = some x := by rw [← l1]; simp
    have e2 : (rs' ++ [y])[fs.length]? = some y := by rw [← l2]; simp
    have e3 : (fs ++ [z])[fs.length]? = some z := by simp
    simp only [List.getD_eq_getElem?_getD, e1, e2, e3, Option.getD_some] at *
    exact hz hc
theorem agree.at_ (h : agree p fs rs rs') (l : fs.length = 8) {x : Int} (hx : isReg x) (hc : clr p (fs.getD x.toNat 0)) : rs.getD x.toNat 0 = rs'.getD x.toNat 0 := h _ (by unfold isReg at hx; omega) hc
theorem val_same (hp : p < 3) (hok : okI op d a b c n) (h10 : op ≤ 10) (hf : five fs) (lf : fs.length = 8) (h : agree p fs rs rs') (hb : sameBut p I J)
    (hc : clr p (if op = 2 then bitP a else orAll fs (readsI op a b c) 0)) : valI rs I op a b c n = valI rs' J op a b c n := by
  unfold valI
  split
  · rfl
  · split
    · rename_i h1 h2
      rw [if_pos h2] at hc
      have h4 : 0 ≤ a ∧ a ≤ 4 := by unfold okI at hok; omega
      rw [hb a.toNat (clr_bit hp h4 hc)]
    · rename_i h1 h2
      rw [if_neg h2] at hc
      have hr := (clr_all hp hf (z := 0) ⟨by decide, by decide⟩ hc).2
      split
      · rename_i h3
        subst h3
        have hreg : isReg a ∧ isReg b ∧ isReg c := by unfold okI isReg at *; omega
        have e : readsI 10 a b c = [a, b, c] := rfl
        rw [e] at hr
        rw [h.at_ lf hreg.1 (hr a (by simp)), h.at_ lf hreg.2.1 (hr b (by simp)), h.at_ lf hreg.2.2 (hr c (by simp))]
      · rename_i h3
        have h39 : 3 ≤ op ∧ op ≤ 9 := by unfold okI at hok; omega
        have hreg : isReg a ∧ isReg b := by unfold okI isReg at *; omega
        have e : readsI op a b c = [a, b] := by unfold readsI; rw [if_neg h3, if_neg (by omega), if_pos h39]
        rw [e] at hr
        rw [h.at_ lf hreg.1 (hr a (by simp)), h.at_ lf hreg.2 (hr b (by simp))]
theorem run_same (hp : p < 3) {ss : List St} (hok : ∀ s ∈ ss, s.ok) (hi : insOk I) (hj : insOk J) (hb : sameBut p I J)
    (hf : five fs) (lf : fs.length = 8) (hs : stOk rs os) (hs' : stOk rs' os') (h : agree p fs rs rs') (lo : os.length = fo.length) (lo' : os'.length = fo.length) (ho : agree p fo os os') :
    agree p (flowAll ss fs fo).2 (runAll ss rs os I).2 (runAll ss rs' os' J).2 := by
  induction ss generalizing fs fo rs os rs' os' with
  | nil => exact ho
  | cons s ss ih =>
    have h0 : okI s.op s.d s.a s.b s.c s.n := hok s (List.mem_cons_self)
    obtain ⟨op, d, a, b, c, n⟩ := s
    simp only at h0
    simp only [flowAll, runAll]
    have g : goes rs os I op d a b c n := ⟨h0, hs, hi⟩
    have g' : goes rs' os' J op d a b c n := ⟨h0, hs', hj⟩
    refine ih (fun t ht => hok t (List.mem_cons_of_mem _ ht)) (flowR_five hf _ _ _ _ _ _) (by rw [flowR_length]; exact lf) (step_ok hs) (step_ok hs') ?_ ?_ ?_ ?_
    · by_cases h10 : op ≤ 10
      · rw [flowR_yes h0 lf h10, stepR_yes g h10, stepR_yes g' h10]
        exact h.set (by rw [hs.1, lf]) (by rw [hs'.1, lf]) (val_same hp h0 h10 hf lf h hb)
      · rw [flowR_no h10, stepR_no (fun e => h10 e.2), stepR_no (fun e => h10 e.2)]
        exact h
    · by_cases h11 : op = 11
      · rw [flowO_yes h0 lf h11, stepO_yes g h11]
        simp [lo]
      · rw [flowO_no h11, stepO_no (fun e => h11 e.2)]
        exact lo
    · by_cases h11 : op = 11
      · rw [flowO_yes h0 lf h11, stepO_yes g' h11]
        simp [lo']
      · rw [flowO_no h11, stepO_no (fun e => h11 e.2)]
        exact lo'
    · by_cases h11 : op = 11
      · rw [flowO_yes h0 lf h11, stepO_yes g h11, stepO_yes g' h11]
        have hreg : isReg a := by unfold okI isReg at *; omega
        exact ho.app lo lo' (h.at_ lf hreg)
      · rw [flowO_no h11, stepO_no (fun e => h11 e.2), stepO_no (fun e => h11 e.2)]
        exact ho
/-- An output whose set lacks party p does not change with the inputs of party p. -/
theorem noninterference (hp : p < 3) {ss : List St} (h : runOk ss I) (h' : runOk ss J) (hb : sameBut p I J) : agree p (deps (unrollL ss)) (runI ss I) (runI ss J) := by
  unfold runI
  rw [if_pos h, if_pos h']
  exact run_same hp (unroll_ok h.1.1) h.2 h'.2 hb (five.zeros 8) (by simp) stOk.start stOk.start (fun _ _ _ => rfl) rfl rfl (fun k hk => by simp at hk)
end
end Go.Proofs.Ytbbdmgomcpmhpaa

namespace Go.Proofs.Ytbbdmgomcpmhpaa
open Go Go.RowKit
set_option maxRecDepth 100000 in
theorem spec_l12All (A : Option Addr) (n c : Nat) (zs : List Int) (r : Bool) (hr : decide (all4 zs) = r) (w : World) (hz : Ints w A zs) (hl : zs.length = n) (hn : n ≤ 1000000000000) :
    Calls Try.prog 65 #[.slice A n c] w fun e w' => e = .returned (.bool r) ∧ w = w' := by
  have Hl := Lib.hid hl
  have Hr := Lib.hid hr
  clear hl hr
  go_enter Try.func65, Try.ntmps65
  go_wp2_with fail
  go_loop [3] (fun i => ∃ k : Nat, k ≤ n ∧ i = .int .i64 k ∧ Hid (∀ j, j < k → in4 (zs.getD j 0))) (fun i => n - (intOf i).toNat)
  case atStart => exact ⟨0, Nat.zero_le _, rfl, fun _ h => by omega⟩
  case round =>
    obtain ⟨k, hk, rfl, hne⟩ := hrel
    by_cases hlt : k < n
    · obtain ⟨b, o, rfl, _, c0⟩ := hz.at_ (j := k) (by rw [Hl.out]; exact hlt)
      have Hyes : Hid (¬ in4 (zs.getD k 0) → ¬ all4 zs) := fun e => all4_no e
      have Hnx : Hid (in4 (zs.getD k 0) → ∀ j, j < k + 1 → in4 (zs.getD j 0)) := fun e j hj => by
        rcases Nat.lt_or_ge j k with h | h
        · exact hne.out j h
        · obtain rfl : j = k := by omega
          exact e
      generalize zs.getD k 0 = y at c0 Hyes Hnx
      have k0 : (0 : Int) ≤ k := by omega
      have k1 : (k : Int) < n := by omega
      clear hz
      by_cases hxy : in4 y
      · have Hn := Lib.hid (Hnx.out hxy)
        have cN := l01In_is y 0 15 true (decide_eq_true hxy) w
        clear Hnx Hyes hxy
        go_wp2_with fail
        refine cN.mono ?_
        rintro e w1 ⟨rfl, rfl⟩
        go_wp2_with fail
        go_round
        case rel => exact ⟨k + 1, by omega, by go_num, Hn.out⟩
        case measure => simp [intOf]; omega
      · have Hy := Lib.hid (Hyes.out hxy)
        have cN := l01In_is y 0 15 false (decide_eq_false hxy) w
        clear Hnx Hyes hxy
        go_wp2_with fail
        refine cN.mono ?_
        rintro e w1 ⟨rfl, rfl⟩
        go_wp2_with fail
        go_ret
        exact ⟨ret_bool (by rw [← Hr.out, decide_eq_false Hy.out]), rfl⟩
    · obtain rfl : k = n := by omega
      have Hno : Hid (all4 zs) := (all4_dec zs).2 (fun j hj => hne.out j (by rw [← Hl.out]; exact hj))
      go_wp2_with fail
      go_ret
      exact ⟨ret_bool (by rw [← Hr.out, decide_eq_true Hno.out]), rfl⟩
end Go.Proofs.Ytbbdmgomcpmhpaa

namespace Go.Proofs.Ytbbdmgomcpmhpaa
open Go Go.RowKit
theorem row_dec {zs : List Int} (h4 : zs.length = 4) : decide (rowOk zs) = decide (all4 zs) := by
  by_cases hb : all4 zs
  · rw [decide_eq_true hb, decide_eq_true (show rowOk zs from ⟨h4, hb⟩)]
  · rw [decide_eq_false hb, decide_eq_false (fun h : rowOk zs => hb h.2)]
theorem impl_notInputsOfParty (A : Option Addr) (n c : Nat) (zs : List Int) (r : Bool) (hr : decide (rowOk zs) = r) (w : World) (hz : Ints w A zs) (hl : zs.length = n) :
    Calls Try.prog 92 #[.slice A n c] w fun e w' => e = .returned (.bool (!r)) ∧ w = w' := by
  by_cases h4 : n = 4
  · have hd := row_dec (zs := zs) (by omega)
    have k1 := impl_allRegValues A n c zs r (by rw [← hd]; exact hr) w hz hl (by omega)
    subst h4
    clear hr hz hl hd
    go_enter Try.func92, Try.ntmps92
    go_wp2_with fail
    refine k1.mono ?_
    rintro e w1 ⟨rfl, rfl⟩
    go_wp2_with fail
    go_ret
    exact ⟨rfl, rfl⟩
  · obtain rfl : r = false := by rw [← hr]; exact decide_eq_false (fun h => h4 (by rw [← hl]; exact h.1))
    have hne : ((n : Int) == 4) = false := beq_eq_false_iff_ne.2 (by omega)
    clear hr hz hl
    go_enter Try.func92, Try.ntmps92
    go_wp2_with fail
    go_ret
    exact ⟨rfl, rfl⟩
def rowsOk (I : List (List Int)) : Prop := ∀ r ∈ I, rowOk r
instance (I : List (List Int)) : Decidable (rowsOk I) := by unfold rowsOk; infer_instance
set_option maxRecDepth 100000 in
theorem impl_IndexRow (A : Option Addr) (n c : Nat) (I : List (List Int)) (w : World) (hz : Rows w.heap.size w A I) (hl : I.length = n) (hn : n ≤ 1000000000000) :
    Calls Try.prog 107 #[.slice A n c, .func (.func 92) #[] #[]] w fun e w' => ∃ r : Int, e = .returned (.int .i64 r) ∧ (0 ≤ r ↔ ¬ rowsOk I) ∧ w = w' := by
  have Hl := Lib.hid hl
  clear hl
  go_enter Try.func107, Try.ntmps107
  go_wp2_with fail
  go_loop [8] (fun i => ∃ k : Nat, k ≤ n ∧ i = .int .i64 k ∧ Hid (∀ j, j < k → rowOk (I.getD j []))) (fun i => n - (intOf i).toNat)
  case atStart => exact ⟨0, Nat.zero_le _, rfl, fun _ h => by omega⟩
  case round =>
    obtain ⟨k, hk, rfl, hne⟩ := hrel
    by_cases hlt : k < n
    · obtain ⟨b, o, Aj, cj, rfl, _, c0, r0⟩ := hz.at_ (j := k) (by rw [Hl.out]; exact hlt)
      have Hyes : Hid (¬ rowOk (I.getD k []) → ¬ rowsOk I) := fun e => rows_no (by rw [Hl.out]; exact hlt) e
      have Hnx : Hid (rowOk (I.getD k []) → ∀ j, j < k + 1 → rowOk (I.getD j [])) := fun e j hj => by
        rcases Nat.lt_or_ge j k with h | h
        · exact hne.out j h
        · obtain rfl : j = k := by omega
          exact e
      generalize I.getD k [] = y at c0 Hyes Hnx r0
      have i0 := r0.ints (Nat.le_refl _)
      obtain ⟨m, hm⟩ : ∃ m, y.length = m := ⟨_, rfl⟩
      rw [hm] at c0
      have k0 : (0 : Int) ≤ k := by omega
      have k1 : (k : Int) < n := by omega
      clear hz r0
      by_cases hxy : rowOk y
      · have Hn := Lib.hid (Hnx.out hxy)
        have cN := impl_notInputsOfParty Aj m cj y true (decide_eq_true hxy) w i0 hm
        clear Hnx Hyes hxy hm i0
        go_wp2_with fail
        refine cN.mono ?_
        rintro e w1 ⟨rfl, rfl⟩
        go_wp2_with fail
        go_round
        case rel => exact ⟨k + 1, by omega, by go_num, Hn.out⟩
        case measure => simp [intOf]; omega
      · have Hy := Lib.hid (Hyes.out hxy)
        have cN := impl_notInputsOfParty Aj m cj y false (decide_eq_false hxy) w i0 hm
        clear Hnx Hyes hxy hm i0
        go_wp2_with fail
        refine cN.mono ?_
        rintro e w1 ⟨rfl, rfl⟩
        go_wp2_with fail
        go_ret
        exact ⟨_, rfl, ⟨fun _ => Hy.out, fun _ => k0⟩, rfl⟩
    · obtain rfl : k = n := by omega
      have Hno : Hid (rowsOk I) := rows_of (fun j hj => hne.out j (by rw [← Hl.out]; exact hj))
      go_wp2_with fail
      go_ret
      exact ⟨_, rfl, ⟨fun h => by omega, fun h => absurd Hno.out h⟩, rfl⟩
theorem impl_ContainsRow (A : Option Addr) (n c : Nat) (I : List (List Int)) (r : Bool) (hr : decide (rowsOk I) = r) (w : World) (hz : Rows w.heap.size w A I) (hl : I.length = n) (hn : n ≤ 1000000000000) :
    Calls Try.prog 91 #[.slice A n c, .func (.func 92) #[] #[]] w fun e w' => e = .returned (.bool (!r)) ∧ w = w' := by
  go_enter Try.func91, Try.ntmps91
  go_wp2_with fail
  refine (impl_IndexRow A n c I w hz hl hn).mono ?_
  rintro e w1 ⟨q, rfl, hq, rfl⟩
  have hd : decide (0 ≤ q) = !r := by
    rw [← hr]
    by_cases h : rowsOk I
    · rw [decide_eq_true h, decide_eq_false (fun e => hq.1 e h)]; rfl
    · rw [decide_eq_false h, decide_eq_true (hq.2 h)]; rfl
  have Hd := Lib.hid hd
  clear hq hd
  go_wp2_with fail
  go_ret
  exact ⟨ret_bool Hd.out, rfl⟩
theorem ins_dec {I : List (List Int)} (h5 : I.length = 5) : decide (insOk I) = decide (rowsOk I) := by
  by_cases hb : rowsOk I
  · rw [decide_eq_true hb, decide_eq_true (show insOk I from ⟨h5, hb⟩)]
  · rw [decide_eq_false hb, decide_eq_false (fun h : insOk I => hb h.2)]
theorem impl_InputsOk (A : Option Addr) (n c : Nat) (I : List (List Int)) (b : Bool) (hb : decide (insOk I) = b) (w : World) (hz : Rows w.heap.size w A I) (hl : I.length = n) (hn : n ≤ 1000000000000) :
    Calls Try.prog 72 #[.slice A n c] w fun e w' => e = .returned (.bool b) ∧ w = w' := by
  by_cases h5 : n = 5
  · have hd := ins_dec (I := I) (by omega)
    have k1 := impl_ContainsRow A n c I b (by rw [← hd]; exact hb) w hz hl hn
    subst h5
    clear hb hz hl hd
    go_enter Try.func72, Try.ntmps72
    go_wp2_with fail
    refine k1.mono ?_
    rintro e w1 ⟨rfl, rfl⟩
    go_wp2_with fail
    go_ret
    exact ⟨ret_bool (by cases b <;> rfl), rfl⟩
  · obtain rfl : b = false := by rw [← hb]; exact decide_eq_false (fun h => h5 (by rw [← hl]; exact h.1))
    have hne : ((n : Int) == 5) = false := beq_eq_false_iff_ne.2 (by omega)
    clear hb hz hl
    go_enter Try.func72, Try.ntmps72
    go_wp2_with fail
    go_ret
    exact ⟨rfl, rfl⟩
set_option maxRecDepth 100000 in
theorem spec_InputsOk (A : Option Addr) (n c : Nat) (I : List (List Int)) (b : Bool) (hb : decide (insOk I) = b) (w : World) (hz : Rows w.heap.size w A I) (hl : I.length = n) (hn : n ≤ 1000000000000) :
    Calls Try.prog 39 #[.slice A n c] w fun e w' => e = .returned (.bool b) ∧ w = w' := by
  have Hl := Lib.hid hl
  have Hb := Lib.hid hb
  clear hl hb
  go_enter Try.func39, Try.ntmps39
  go_wp2_with fail
  go_loop [3] (fun i => ∃ k : Nat, k ≤ n ∧ i = .int .i64 k ∧ Hid (∀ j, j < k → rowOk (I.getD j []))) (fun i => n - (intOf i).toNat)
  case atStart => exact ⟨0, Nat.zero_le _, rfl, fun _ h => by omega⟩
  case round =>
    obtain ⟨k, hk, rfl, hne⟩ := hrel
    by_cases hlt : k < n
    · obtain ⟨g, o, Aj, cj, rfl, _, c0, r0⟩ := hz.at_ (j := k) (by rw [Hl.out]; exact hlt)
      have Hno : Hid (¬ rowOk (I.getD k []) → b = false) := fun e => by
        rw [← Hb.out]
        exact decide_eq_false (fun h => rows_no (by rw [Hl.out]; exact hlt) e h.2)
      have Hnx : Hid (rowOk (I.getD k []) → ∀ j, j < k + 1 → rowOk (I.getD j [])) := fun e j hj => by
        rcases Nat.lt_or_ge j k with h | h
        · exact hne.out j h
        · obtain rfl : j = k := by omega
          exact e
      generalize I.getD k [] = y at c0 Hno Hnx r0
      have i0 := r0.ints (Nat.le_refl _)
      obtain ⟨m, hm⟩ : ∃ m, y.length = m := ⟨_, rfl⟩
      rw [hm] at c0
      have k0 : (0 : Int) ≤ k := by omega
      have k1 : (k : Int) < n := by omega
      clear hz r0
      by_cases h4 : m = 4
      · subst h4
        by_cases hxy : all4 y
        · have Hn := Lib.hid (Hnx.out ⟨hm, hxy⟩)
          have cN := spec_l12All Aj 4 cj y true (decide_eq_true hxy) w i0 hm (by omega)
          clear Hnx Hno hxy hm i0
          go_wp2_with fail
          refine cN.mono ?_
          rintro e w1 ⟨rfl, rfl⟩
          go_wp2_with fail
          go_round
          case rel => exact ⟨k + 1, by omega, by go_num, Hn.out⟩
          case measure => simp [intOf]; omega
        · have Hy := Lib.hid (Hno.out (fun h => hxy h.2))
          have cN := spec_l12All Aj 4 cj y false (decide_eq_false hxy) w i0 hm (by omega)
          clear Hnx Hno hxy hm i0
          go_wp2_with fail
          refine cN.mono ?_
          rintro e w1 ⟨rfl, rfl⟩
          go_wp2_with fail
          go_ret
          exact ⟨ret_bool Hy.out.symm, rfl⟩
      · have Hy := Lib.hid (Hno.out (fun h => h4 (by rw [← hm]; exact h.1)))
        have hne4 : ((m : Int) == 4) = false := beq_eq_false_iff_ne.2 (by omega)
        clear Hnx Hno hm i0
        go_wp2_with fail
        go_ret
        exact ⟨ret_bool Hy.out.symm, rfl⟩
    · obtain rfl : k = n := by omega
      have Hall : Hid (((k : Int) == 5) = b) := by
        have hr : ∀ r ∈ I, rowOk r := rows_of (fun j hj => hne.out j (by rw [← Hl.out]; exact hj))
        by_cases h5 : k = 5
        · subst h5
          exact (by rw [← Hb.out, decide_eq_true (show insOk I from ⟨Hl.out, hr⟩)]; rfl)
        · exact (by rw [← Hb.out, decide_eq_false (fun h : insOk I => h5 (by rw [← Hl.out]; exact h.1))]; exact beq_eq_false_iff_ne.2 (by omega))
      clear hz hne
      go_wp2_with fail
      go_ret
      exact ⟨ret_bool Hall.out, rfl⟩
end Go.Proofs.Ytbbdmgomcpmhpaa
