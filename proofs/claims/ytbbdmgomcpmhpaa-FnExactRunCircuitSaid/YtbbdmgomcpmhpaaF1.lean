/- Information flow in plain numbers. No condition. And what goes with it. -/
import Derived.Test.YtbbdmgomcpmhpaaB6
import Derived.Laws.BitsAllLaws
import Derived.Test.YtbbdmgomcpmhpaaProg
import Derived.Test.YtbbdmgomcpmhpaaB1
import Derived.Test.YtbbdmgomcpmhpaaSFlow
import Derived.Test.YtbbdmgomcpmhpaaCloneI
import Derived.Test.YtbbdmgomcpmhpaaB4
import Derived.Laws.CopyOwn
import Derived.Test.YtbbdmgomcpmhpaaB2
namespace Go.Proofs.Ytbbdmgomcpmhpaa
open Go Go.RowKit
/-- The bit of a party. -/
def bitP (a : Int) : Int := if a = 0 then 1 else if a = 1 then 2 else if a = 2 then 4 else if a = 3 then 8 else 16
theorem bit_shl {a : Int} (h : 0 ≤ a ∧ a ≤ 4) : wrap64 (2 ^ a.toNat) = bitP a := by
  have h5 : a = 0 ∨ a = 1 ∨ a = 2 ∨ a = 3 ∨ a = 4 := by omega
  rcases h5 with rfl | rfl | rfl | rfl | rfl <;> decide +kernel
/-- The sets of some registers, joined. -/
def orAll (rs l : List Int) (z : Int) : Int := match l with
  | [] => z
  | r :: l => orAll rs l (bits .or .i64 z (rs.getD r.toNat 0))
theorem orAll_snoc (rs l : List Int) (r z : Int) : orAll rs (l ++ [r]) z = bits .or .i64 (orAll rs l z) (rs.getD r.toNat 0) := by
  induction l generalizing z with
  | nil => rfl
  | cons x l ih => exact ih _
theorem orAll_step {rs l : List Int} {k : Nat} (hk : k < l.length) (z : Int) : orAll rs (l.take (k + 1)) z = bits .or .i64 (orAll rs (l.take k) z) (rs.getD (l.getD k 0).toNat 0) := by
  have e : l.getD k 0 = l[k] := by rw [List.getD_eq_getElem?_getD, List.getElem?_eq_getElem hk]; rfl
  have e2 : l.take (k + 1) = l.take k ++ [l.getD k 0] := by rw [List.take_add_one, List.getElem?_eq_getElem hk, e]; rfl
  rw [e2]
  exact orAll_snoc _ _ _ _
/-- The registers' sets behind a statement. -/
def flowR (rs : List Int) (op d a b c n : Int) : List Int :=
  if okI op d a b c n ∧ rs.length = 8 ∧ op ≤ 10 then rs.set d.toNat (if op = 2 then bitP a else orAll rs (readsI op a b c) 0) else rs
/-- The outputs' sets behind a statement. -/
def flowO (rs os : List Int) (op d a b c n : Int) : List Int :=
  if okI op d a b c n ∧ rs.length = 8 ∧ op = 11 then os ++ [rs.getD a.toNat 0] else os
def flowAll (ss : List St) (rs os : List Int) : List Int × List Int := match ss with
  | [] => (rs, os)
  | s :: ss => flowAll ss (flowR rs s.op s.d s.a s.b s.c s.n) (flowO rs os s.op s.d s.a s.b s.c s.n)
def deps (ss : List St) : List Int := (flowAll ss (List.replicate 8 0) []).2
def depsI (ss : List St) : List Int := if unrI ss then deps (unrollL ss) else []
theorem flowAll_step {ss : List St} {k : Nat} (hk : k < ss.length) {op d a b c n : Int} (e : ss.getD k s0 = ⟨op, d, a, b, c, n⟩) (rs os : List Int) :
    flowAll (ss.drop k) rs os = flowAll (ss.drop (k + 1)) (flowR rs op d a b c n) (flowO rs os op d a b c n) := by
  rw [drop_at hk e]; rfl
theorem flowAll_end (ss : List St) (rs os : List Int) : flowAll (ss.drop ss.length) rs os = (rs, os) := by rw [List.drop_length]; rfl
/-- Every number has five bits at most. -/
def five (l : List Int) : Prop := ∀ z ∈ l, 0 ≤ z ∧ z ≤ 31
theorem five.nil : five [] := fun z h => by simp at h
theorem five.zeros (k : Nat) : five (List.replicate k 0) := fun z h => by
  have := List.eq_of_mem_replicate h
  omega
theorem five.at_ {l : List Int} (h : five l) (k : Nat) : 0 ≤ l.getD k 0 ∧ l.getD k 0 ≤ 31 := by
  rcases Nat.lt_or_ge k l.length with hk | hk
  · rw [List.getD_eq_getElem?_getD, List.getElem?_eq_getElem hk]
    exact h _ (List.getElem_mem hk)
  · rw [List.getD_eq_getElem?_getD, List.getElem?_eq_none hk]
    exact ⟨Int.le_refl _, by decide⟩
theorem five.wf {l : List Int} (h : five l) : ∀ z ∈ l, (Lit.int .i64 z).wf = true := fun z hz => by
  have := h z hz
  simp [Lit.wf, IntKind.min, IntKind.max, IntKind.signed, IntKind.bits]
  omega
theorem five.set {l : List Int} (h : five l) (k : Nat) {x : Int} (hx : 0 ≤ x ∧ x ≤ 31) : five (l.set k x) := fun z hz => by
  rcases List.mem_or_eq_of_mem_set hz with hz | rfl
  · exact h z hz
  · exact hx
theorem five.app {a b : List Int} (ha : five a) (hb : five b) : five (a ++ b) := fun z hz => (List.mem_append.1 hz).elim (ha z) (hb z)
theorem five.one {x : Int} (hx : 0 ≤ x ∧ x ≤ 31) : five [x] := fun z hz => by simp at hz; subst hz; exact hx
theorem or_fin : ∀ a b : Fin 32, (0 ≤ bits .or .i64 (a.val : Int) (b.val : Int) ∧ bits .or .i64 (a.val : Int) (b.val : Int) ≤ 31) ∧ (bits .or .i64 (a.val : Int) (b.val : Int) = 0 → a.val = 0 ∧ b.val = 0) := by decide +kernel
theorem or_five {a b : Int} (ha : 0 ≤ a ∧ a ≤ 31) (hb : 0 ≤ b ∧ b ≤ 31) : (0 ≤ bits .or .i64 a b ∧ bits .or .i64 a b ≤ 31) ∧ (bits .or .i64 a b = 0 ↔ a = 0 ∧ b = 0) := by
  have h := or_fin ⟨a.toNat, by omega⟩ ⟨b.toNat, by omega⟩
  simp only [Int.toNat_of_nonneg ha.1, Int.toNat_of_nonneg hb.1] at h
  refine ⟨h.1, fun e => ?_, fun e => ?_⟩
  · have := h.2 e; omega
  · obtain ⟨rfl, rfl⟩ := e
    decide +kernel
theorem more_fin : ∀ a : Fin 32, 0 ≤ bits .or .i64 (a.val : Int) 4 ∧ bits .andNot .i64 (a.val : Int) (bits .or .i64 (a.val : Int) 4) = 0 ∧ bits .andNot .i64 (a.val : Int) (a.val : Int) = 0 ∧ bits .andNot .i64 (a.val : Int) 0 = (a.val : Int) := by decide +kernel
theorem more_five {a : Int} (ha : 0 ≤ a ∧ a ≤ 31) : 0 ≤ bits .or .i64 a 4 ∧ bits .andNot .i64 a (bits .or .i64 a 4) = 0 ∧ bits .andNot .i64 a a = 0 ∧ bits .andNot .i64 a 0 = a := by
  have h := more_fin ⟨a.toNat, by omega⟩
  simp only [Int.toNat_of_nonneg ha.1] at h
  exact h
/-- What a number was joined with nothing. -/
theorem or_zero {z : Int} (h : (Lit.int .i64 z).wf = true) : bits .or .i64 0 z = z := by
  have hz : -9223372036854775808 ≤ z ∧ z ≤ 9223372036854775807 := by simpa [Lit.wf, IntKind.min, IntKind.max, IntKind.signed, IntKind.bits] using h
  show IntKind.i64.wrap ((BitVec.ofInt 64 0 ||| BitVec.ofInt 64 z).toNat : Int) = z
  rw [show BitVec.ofInt 64 0 = 0#64 from rfl, BitVec.zero_or, BitVec.toNat_ofInt, IntKind.wrap_i64]
  omega
theorem orAll_five {rs : List Int} (h : five rs) (l : List Int) {z : Int} (hz : 0 ≤ z ∧ z ≤ 31) : 0 ≤ orAll rs l z ∧ orAll rs l z ≤ 31 := by
  induction l generalizing z with
  | nil => exact hz
  | cons r l ih => exact ih (or_five hz (h.at_ _)).1
theorem flowR_five {rs : List Int} (h : five rs) (op d a b c n : Int) : five (flowR rs op d a b c n) := by
  unfold flowR
  split
  · refine h.set _ ?_
    split
    · unfold bitP
      repeat' split
      all_goals omega
    · exact orAll_five h _ (by omega)
  · exact h
theorem flowR_length (rs : List Int) (op d a b c n : Int) : (flowR rs op d a b c n).length = rs.length := by
  unfold flowR
  split
  · simp
  · rfl
theorem flowO_five {rs os : List Int} (h : five rs) (ho : five os) (op d a b c n : Int) : five (flowO rs os op d a b c n) := by
  unfold flowO
  split
  · exact ho.app (five.one (h.at_ _))
  · exact ho
theorem flowAll_five (ss : List St) {rs os : List Int} (h : five rs) (ho : five os) : five (flowAll ss rs os).2 := by
  induction ss generalizing rs os with
  | nil => exact ho
  | cons s ss ih => exact ih (flowR_five h _ _ _ _ _ _) (flowO_five h ho _ _ _ _ _ _)
theorem deps_five (ss : List St) : five (deps ss) := flowAll_five ss (five.zeros 8) five.nil
theorem flowO_length (rs os : List Int) (op d a b c n : Int) : (flowO rs os op d a b c n).length ≤ os.length + 1 := by
  unfold flowO
  split <;> simp
theorem flowAll_length (ss : List St) (rs os : List Int) : (flowAll ss rs os).2.length ≤ os.length + ss.length := by
  induction ss generalizing rs os with
  | nil => simp [flowAll]
  | cons s ss ih =>
    have h1 := ih (flowR rs s.op s.d s.a s.b s.c s.n) (flowO rs os s.op s.d s.a s.b s.c s.n)
    have h2 := flowO_length rs os s.op s.d s.a s.b s.c s.n
    simp only [flowAll, List.length_cons]
    omega
theorem depsI_length (ss : List St) : (depsI ss).length ≤ 120 := by
  unfold depsI
  split
  · rename_i h
    have := flowAll_length (unrollL ss) (List.replicate 8 0) []
    have := h.2
    unfold deps
    simp at *
    omega
  · simp
/-- Where every statement is valid, there is a number for each out. -/
theorem flowAll_outs {ss : List St} (hok : ∀ s ∈ ss, s.ok) {rs : List Int} (hr : rs.length = 8) (os : List Int) : (flowAll ss rs os).2.length = os.length + outs ss := by
  induction ss generalizing rs os with
  | nil => rfl
  | cons s ss ih =>
    have h0 : okI s.op s.d s.a s.b s.c s.n := hok s (List.mem_cons_self)
    simp only [flowAll, outs]
    rw [ih (fun t ht => hok t (List.mem_cons_of_mem _ ht)) (by rw [flowR_length]; exact hr)]
    unfold flowO
    by_cases h : s.op = 11
    · rw [if_pos ⟨h0, hr, h⟩, if_pos h]; simp; omega
    · rw [if_neg (fun e => h e.2.2), if_neg h]; omega
/-- What each statement of a program is, each of the unrolled program is. -/
theorem mach_all {Q : St → Prop} {ss : List St} (hs : ∀ s ∈ ss, Q s) {C : List St} {K : Fr} (hC : ∀ s ∈ C, Q s) (hK : ∀ f ∈ K, ∀ s ∈ f.2, Q s) : ∀ s ∈ (mach ss C K).1, Q s := by
  induction ss generalizing C K with
  | nil => exact hC
  | cons s ss ih =>
    have h0 := hs s (List.mem_cons_self)
    have ht : ∀ t ∈ ss, Q t := fun t h => hs t (List.mem_cons_of_mem _ h)
    simp only [mach]
    split
    · exact ih ht (fun _ h => by simp at h) (fun f hf => by
        rcases List.mem_cons.1 hf with rfl | hf
        · exact hC
        · exact hK f hf)
    · split
      · cases K with
        | nil => exact ih ht hC (fun f hf => by simp at hf)
        | cons f K =>
          refine ih ht (fun s hs => ?_) (fun g hg => hK g (List.mem_cons_of_mem _ hg))
          rcases List.mem_append.1 hs with hs | hs
          · exact hK f (List.mem_cons_self) s hs
          · exact hC s (rep_mem hs)
      · refine ih ht (fun t ht => ?_) hK
        rcases List.mem_append.1 ht with ht | ht
        · exact hC t ht
        · simp at ht; subst ht; exact h0
theorem unroll_ok {ss : List St} (h : progI ss) : ∀ s ∈ unrollL ss, s.ok := by
  refine mach_all (fun s hs => ?_) (fun _ h => by simp at h) (fun _ h => by simp at h)
  obtain ⟨k, hk, rfl⟩ := List.getElem_of_mem hs
  have := runD_ok h.2 k hk
  rwa [List.getD_eq_getElem?_getD, List.getElem?_eq_getElem hk, Option.getD_some] at this
theorem deps_outs {ss : List St} (h : progI ss) : (deps (unrollL ss)).length = outs (unrollL ss) := by
  unfold deps
  rw [flowAll_outs (unroll_ok h) (by simp)]
  simp
/-- The dependencies are among those that are allowed. -/
def within (ds al : List Int) : Prop := ds.length = al.length ∧ ∀ k, k < ds.length → 0 ≤ al.getD k 0 ∧ bits .andNot .i64 (ds.getD k 0) (al.getD k 0) = 0
instance (ds al : List Int) : Decidable (within ds al) := by unfold within; infer_instance
def flowOkI (ss : List St) (al : List Int) : Prop := unrI ss ∧ within (deps (unrollL ss)) al
instance (ss : List St) (al : List Int) : Decidable (flowOkI ss al) := by unfold flowOkI; infer_instance
/-- All bits of a list together. -/
theorem within_same {ds : List Int} (h : five ds) : within ds ds := ⟨rfl, fun k _ => ⟨(h.at_ k).1, (more_five (h.at_ k)).2.2.1⟩⟩
theorem within_more {ds : List Int} (h : five ds) : within ds (ds.map fun x => bits .or .i64 x 4) := by
  refine ⟨by simp, fun k hk => ?_⟩
  have e : (ds.map fun x => bits .or .i64 x 4).getD k 0 = bits .or .i64 (ds.getD k 0) 4 := by
    simp [List.getD_eq_getElem?_getD, List.getElem?_eq_getElem hk]
  rw [e]
  exact ⟨(more_five (h.at_ k)).1, (more_five (h.at_ k)).2.1⟩
def orList (l : List Int) (z : Int) : Int := match l with
  | [] => z
  | x :: l => orList l (bits .or .i64 z x)
theorem orList_step {l : List Int} {k : Nat} (hk : k < l.length) (z : Int) : orList (l.drop k) z = orList (l.drop (k + 1)) (bits .or .i64 z (l.getD k 0)) := by
  rw [List.drop_eq_getElem_cons hk, List.getD_eq_getElem?_getD, List.getElem?_eq_getElem hk]
  rfl
theorem orList_zero {l : List Int} (h : five l) {z : Int} (hz : 0 ≤ z ∧ z ≤ 31) : orList l z = 0 ↔ z = 0 ∧ ∀ x ∈ l, x = 0 := by
  induction l generalizing z with
  | nil => simp [orList]
  | cons x l ih =>
    have hx := h x (List.mem_cons_self)
    have ho := or_five hz hx
    show orList l (bits .or .i64 z x) = 0 ↔ _
    rw [ih (fun y hy => h y (List.mem_cons_of_mem _ hy)) ho.1, ho.2]
    simp [and_assoc]
theorem within_none {ds : List Int} (h : five ds) : within ds (List.replicate ds.length 0) ↔ orList ds 0 = 0 := by
  rw [orList_zero h (by omega)]
  constructor
  · rintro ⟨_, hk⟩
    refine ⟨rfl, fun x hx => ?_⟩
    obtain ⟨k, hkl, rfl⟩ := List.getElem_of_mem hx
    have h2 := (hk k hkl).2
    rw [show (List.replicate ds.length (0 : Int)).getD k 0 = 0 by simp [List.getD_eq_getElem?_getD, hkl], (more_five (h.at_ k)).2.2.2, List.getD_eq_getElem?_getD, List.getElem?_eq_getElem hkl] at h2
    exact h2
  · rintro ⟨_, hx⟩
    refine ⟨by simp, fun k hk => ?_⟩
    have e : (List.replicate ds.length (0 : Int)).getD k 0 = 0 := by simp [List.getD_eq_getElem?_getD, hk]
    rw [e, (more_five (h.at_ k)).2.2.2, List.getD_eq_getElem?_getD, List.getElem?_eq_getElem hk]
    exact ⟨Int.le_refl _, hx _ (List.getElem_mem hk)⟩
end Go.Proofs.Ytbbdmgomcpmhpaa

namespace Go.Proofs.Ytbbdmgomcpmhpaa
open Go Go.RowKit
theorem eight {l : List Int} (h : l.length = 8) : ∃ a b c d e f g i : Int, l = [a, b, c, d, e, f, g, i] := by
  match l, h with
  | [a, b, c, d, e, f, g, i], _ => exact ⟨a, b, c, d, e, f, g, i, rfl⟩
/-- Eight numbers as cells. -/
def cells8 (l : List Int) : Array Value := (intVals l).toArray
theorem cells8_at {l : List Int} {k : Nat} (hk : k < l.length) : (cells8 l)[k]? = some (.int .i64 (l.getD k 0)) := by
  simp [cells8, intVals, List.getElem?_map, List.getD_eq_getElem?_getD, List.getElem?_eq_getElem hk]
def inRegs (l : List Int) : Prop := ∀ z ∈ l, 0 ≤ z ∧ z ≤ 7
theorem inRegs.at_ {l : List Int} (h : inRegs l) {k : Nat} (hk : k < l.length) : 0 ≤ l.getD k 0 ∧ l.getD k 0 ≤ 7 := by
  rw [List.getD_eq_getElem?_getD, List.getElem?_eq_getElem hk]
  exact h _ (List.getElem_mem hk)
end Go.Proofs.Ytbbdmgomcpmhpaa

namespace Go.Proofs.Ytbbdmgomcpmhpaa
open Go Go.RowKit
end Go.Proofs.Ytbbdmgomcpmhpaa

namespace Go.Proofs.Ytbbdmgomcpmhpaa
open Go Go.RowKit
end Go.Proofs.Ytbbdmgomcpmhpaa

namespace Go.Proofs.Ytbbdmgomcpmhpaa
open Go Go.RowKit
theorem ty_what {op d a b c n : Int} {t : Ty} (h : tyOf op d a b c n = some t) : (op = 2 ∧ t = .inp d a n) ∨ (op = 11 ∧ t = .out a) ∨ (op ≠ 2 ∧ op ≠ 11 ∧ (∀ x y z, t ≠ .inp x y z) ∧ ∀ x, t ≠ .out x) := by
  rcases @tyOf_cases op d a b c n with ⟨h1, e⟩ | ⟨h1, e⟩ | ⟨h1, e⟩ | ⟨h1, e⟩ | ⟨h1, e⟩ | ⟨h1, e⟩ | ⟨h1, e⟩ | ⟨h1, e⟩ <;> rw [e] at h <;> cases h
  · exact .inr (.inr ⟨by omega, by omega, (fun _ _ _ e => by cases e), (fun _ e => by cases e)⟩)
  · exact .inl ⟨h1, rfl⟩
  · exact .inr (.inr ⟨by omega, by omega, (fun _ _ _ e => by cases e), (fun _ e => by cases e)⟩)
  · exact .inr (.inr ⟨by omega, by omega, (fun _ _ _ e => by cases e), (fun _ e => by cases e)⟩)
  · exact .inr (.inl ⟨h1, rfl⟩)
  · exact .inr (.inr ⟨by omega, by omega, (fun _ _ _ e => by cases e), (fun _ e => by cases e)⟩)
  · exact .inr (.inr ⟨by omega, by omega, (fun _ _ _ e => by cases e), (fun _ e => by cases e)⟩)
theorem cells8_set (l : List Int) (k : Nat) (x : Int) : (cells8 l).setIfInBounds k (.int .i64 x) = cells8 (l.set k x) := by
  apply Array.ext'
  simp [cells8, intVals, List.map_set]
theorem own8 {w : World} {g lo : Nat} {T : TypeId} {rs : List Int} (h : w.heap[g]? = some (.cells (cells8 rs) T (0, 0))) (hl : rs.length = 8) (hlo : lo ≤ g) : OwnA 1 lo (g + 1) w (.slice (some ⟨g, 0, none⟩) 8 8) 8 rs := by
  refine ⟨⟨T, by rw [intVals_length, hl], .inr ⟨g, 8, cells8 rs, rfl, hlo, h, Nat.le_refl _, by unfold maxLen; omega, by simp [cells8, intVals, hl], ?_⟩⟩, fun k e => ?_⟩
  · rw [List.take_of_length_le (by simp [cells8, intVals, hl])]
    simp [cells8]
  · have : g = k := by simpa [Value.ownBlock] using e
    omega
theorem splice_all {L cs : List Value} (h : L.length = cs.length) : splice L 0 cs = cs := by
  unfold splice
  rw [List.take_zero, List.nil_append, Nat.zero_add, ← h, List.drop_length, List.append_nil]
theorem src_row {w : World} {A0 : Option Addr} {rs : List Int} (hz : Ints w A0 rs) (h0 : 0 < rs.length) : ∃ ad, A0 = some ad ∧ ∀ j v, (intVals rs)[j]? = some v → w.cell? (ad.add j) = some v := by
  obtain ⟨b, o, hA, _, hc⟩ := hz h0
  refine ⟨⟨b, o, none⟩, hA, fun j u hu => ?_⟩
  have hj : j < rs.length := by
    rcases Nat.lt_or_ge j rs.length with h | h
    · exact h
    · rw [List.getElem?_eq_none (by rw [intVals_length]; exact h)] at hu; cases hu
  have hadd : (⟨b, o, none⟩ : Addr).add j = ⟨b, o + j, none⟩ := by
    rcases Nat.eq_zero_or_pos j with h | h
    · subst h; simp [Addr.add]
    · simp [Addr.add, Nat.ne_of_gt h]
  rw [hadd, hc j hj, ← hu]
  simp [intVals, List.getD_eq_getElem?_getD, List.getElem?_eq_getElem hj]
end Go.Proofs.Ytbbdmgomcpmhpaa
