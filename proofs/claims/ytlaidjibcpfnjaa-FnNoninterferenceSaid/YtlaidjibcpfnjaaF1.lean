/- Information flow in plain numbers. No condition. And what goes with it. -/
import Derived.Test.YtlaidjibcpfnjaaB6
import Derived.Laws.BitsAllLaws
import Derived.Test.YtlaidjibcpfnjaaProg
import Derived.Test.YtlaidjibcpfnjaaB1
import Derived.Test.YtlaidjibcpfnjaaSFlow
import Derived.Test.YtlaidjibcpfnjaaCloneI
import Derived.Test.YtlaidjibcpfnjaaB4
import Derived.Laws.CopyOwn
import Derived.Test.YtlaidjibcpfnjaaB2
namespace Go.Proofs.Ytlaidjibcpfnjaa
open Go Go.RowKit
/-- The bit of a party. -/
def bitP (a : Int) : Int := if a = 0 then 1 else if a = 1 then 2 else if a = 2 then 4 else if a = 3 then 8 else 16
theorem bit_shl {a : Int} (h : 0 ≤ a ∧ a ≤ 4) : wrap64 (2 ^ a.toNat) = bitP a := by
  have h5 : a = 0 ∨ a = 1 ∨ a = 2 ∨ a = 3 ∨ a = 4 := by omega
  rcases h5 with rfl | rfl | rfl | rfl | rfl <;> decide +kernel
/-- The sets of some registers, joined. -/
def orAll (rs l : List Int) (z : Int) : Int := match l with
  | [] => z
  | r :: l => orAll rs l (bits .or .i64 z (rs.getD r.toNat 0))
theorem orAll_snoc (rs l : List Int) (r z : Int) : orAll rs (l ++ [r]) z = bits .or .i64 (orAll rs l z) (rs.getD r.toNat 0) := by
  induction l generalizing z with
  | nil => rfl
  | cons x l ih => exact ih _
theorem orAll_step {rs l : List Int} {k : Nat} (hk : k < l.length) (z : Int) : orAll rs (l.take (k + 1)) z = bits .or .i64 (orAll rs (l.take k) z) (rs.getD (l.getD k 0).toNat 0) := by
  have e : l.getD k 0 = l[k] := by rw [List.getD_eq_getElem?_getD, List.getElem?_eq_getElem hk]; rfl
  have e2 : l.take (k + 1) = l.take k ++ [l.getD k 0] := by rw [List.take_add_one, List.getElem?_eq_getElem hk, e]; rfl
  rw [e2]
  exact orAll_snoc _ _ _ _
/-- The registers' sets behind a statement. -/
def flowR (rs : List Int) (op d a b c n : Int) : List Int :=
  if okI op d a b c n ∧ rs.length = 8 ∧ op ≤ 10 then rs.set d.toNat (if op = 2 then bitP a else orAll rs (readsI op a b c) 0) else rs
/-- The outputs' sets behind a statement. -/
def flowO (rs os : List Int) (op d a b c n : Int) : List Int :=
  if okI op d a b c n ∧ rs.length = 8 ∧ op = 11 then os ++ [rs.getD a.toNat 0] else os
def flowAll (ss : List St) (rs os : List Int) : List Int × List Int := match ss with
  | [] => (rs, os)
  | s :: ss => flowAll ss (flowR rs s.op s.d s.a s.b s.c s.n) (flowO rs os s.op s.d s.a s.b s.c s.n)
def deps (ss : List St) : List Int := (flowAll ss (List.replicate 8 0) []).2
def depsI (ss : List St) : List Int := if unrI ss then deps (unrollL ss) else []
theorem flowAll_step {ss : List St} {k : Nat} (hk : k < ss.length) {op d a b c n : Int} (e : ss.getD k s0 = ⟨op, d, a, b, c, n⟩) (rs os : List Int) :
    flowAll (ss.drop k) rs os = flowAll (ss.drop (k + 1)) (flowR rs op d a b c n) (flowO rs os op d a b c n) := by
  rw [drop_at hk e]; rfl
theorem flowAll_end (ss : List St) (rs os : List Int) : flowAll (ss.drop ss.length) rs os = (rs, os) := by rw [List.drop_length]; rfl
/-- Every number has five bits at most. -/
def five (l : List Int) : Prop := ∀ z ∈ l, 0 ≤ z ∧ z ≤ 31
theorem five.nil : five [] := fun z h => by simp at h
theorem five.zeros (k : Nat) : five (List.replicate k 0) := fun z h => by
  have := List.eq_of_mem_replicate h
  omega
theorem five.at_ {l : List Int} (h : five l) (k : Nat) : 0 ≤ l.getD k 0 ∧ l.getD k 0 ≤ 31 := by
  rcases Nat.lt_or_ge k l.length with hk | hk
  · rw [List.getD_eq_getElem?_getD, List.getElem?_eq_getElem hk]
    exact h _ (List.getElem_mem hk)
  · rw [List.getD_eq_getElem?_getD, List.getElem?_eq_none hk]
    exact ⟨Int.le_refl _, by decide⟩
theorem five.wf {l : List Int} (h : five l) : ∀ z ∈ l, (Lit.int .i64 z).wf = true := fun z hz => by
  have := h z hz
  simp [Lit.wf, IntKind.min, IntKind.max, IntKind.signed, IntKind.bits]
  omega
theorem five.set {l : List Int} (h : five l) (k : Nat) {x : Int} (hx : 0 ≤ x ∧ x ≤ 31) : five (l.set k x) := fun z hz => by
  rcases List.mem_or_eq_of_mem_set hz with hz | rfl
  · exact h z hz
  · exact hx
theorem five.app {a b : List Int} (ha : five a) (hb : five b) : five (a ++ b) := fun z hz => (List.mem_append.1 hz).elim (ha z) (hb z)
theorem five.one {x : Int} (hx : 0 ≤ x ∧ x ≤ 31) : five [x] := fun z hz => by simp at hz; subst hz; exact hx
theorem or_fin : ∀ a b : Fin 32, (0 ≤ bits .or .i64 (a.val : Int) (b.val : Int) ∧ bits .or .i64 (a.val : Int) (b.val : Int) ≤ 31) ∧ (bits .or .i64 (a.val : Int) (b.val : Int) = 0 → a.val = 0 ∧ b.val = 0) := by decide +kernel
theorem or_five {a b : Int} (ha : 0 ≤ a ∧ a ≤ 31) (hb : 0 ≤ b ∧ b ≤ 31) : (0 ≤ bits .or .i64 a b ∧ bits .or .i64 a b ≤ 31) ∧ (bits .or .i64 a b = 0 ↔ a = 0 ∧ b = 0) := by
  have h := or_fin ⟨a.toNat, by omega⟩ ⟨b.toNat, by omega⟩
  simp only [Int.toNat_of_nonneg ha.1, Int.toNat_of_nonneg hb.1] at h
  refine ⟨h.1, fun e => ?_, fun e => ?_⟩
  · have := h.2 e; omega
  · obtain ⟨rfl, rfl⟩ := e
    decide +kernel
theorem more_fin : ∀ a : Fin 32, 0 ≤ bits .or .i64 (a.val : Int) 4 ∧ bits .andNot .i64 (a.val : Int) (bits .or .i64 (a.val : Int) 4) = 0 ∧ bits .andNot .i64 (a.val : Int) (a.val : Int) = 0 ∧ bits .andNot .i64 (a.val : Int) 0 = (a.val : Int) := by decide +kernel
theorem more_five {a : Int} (ha : 0 ≤ a ∧ a ≤ 31) : 0 ≤ bits .or .i64 a 4 ∧ bits .andNot .i64 a (bits .or .i64 a 4) = 0 ∧ bits .andNot .i64 a a = 0 ∧ bits .andNot .i64 a 0 = a := by
  have h := more_fin ⟨a.toNat, by omega⟩
  simp only [Int.toNat_of_nonneg ha.1] at h
  exact h
/-- What a number was joined with nothing. -/
theorem or_zero {z : Int} (h : (Lit.int .i64 z).wf = true) : bits .or .i64 0 z = z := by
  have hz : -9223372036854775808 ≤ z ∧ z ≤ 9223372036854775807 := by simpa [Lit.wf, IntKind.min, IntKind.max, IntKind.signed, IntKind.bits] using h
  show IntKind.i64.wrap ((BitVec.ofInt 64 0 ||| BitVec.ofInt 64 z).toNat : Int) = z
  rw [show BitVec.ofInt 64 0 = 0#64 from rfl, BitVec.zero_or, BitVec.toNat_ofInt, IntKind.wrap_i64]
  omega
theorem orAll_five {rs : List Int} (h : five rs) (l : List Int) {z : Int} (hz : 0 ≤ z ∧ z ≤ 31) : 0 ≤ orAll rs l z ∧ orAll rs l z ≤ 31 := by
  induction l generalizing z with
  | nil => exact hz
  | cons r l ih => exact ih (or_five hz (h.at_ _)).1
theorem flowR_five {rs : List Int} (h : five rs) (op d a b c n : Int) : five (flowR rs op d a b c n) := by
  unfold flowR
  split
  · refine h.set _ ?_
    split
    · unfold bitP
      repeat' split
      all_goals omega
    · exact orAll_five h _ (by omega)
  · exact h
theorem flowR_length (rs : List Int) (op d a b c n : Int) : (flowR rs op d a b c n).length = rs.length := by
  unfold flowR
  split
  · simp
  · rfl
theorem flowO_five {rs os : List Int} (h : five rs) (ho : five os) (op d a b c n : Int) : five (flowO rs os op d a b c n) := by
  unfold flowO
  split
  · exact ho.app (five.one (h.at_ _))
  · exact ho
theorem flowAll_five (ss : List St) {rs os : List Int} (h : five rs) (ho : five os) : five (flowAll ss rs os).2 := by
  induction ss generalizing rs os with
  | nil => exact ho
  | cons s ss ih => exact ih (flowR_five h _ _ _ _ _ _) (flowO_five h ho _ _ _ _ _ _)
theorem deps_five (ss : List St) : five (deps ss) := flowAll_five ss (five.zeros 8) five.nil
theorem flowO_length (rs os : List Int) (op d a b c n : Int) : (flowO rs os op d a b c n).length ≤ os.length + 1 := by
  unfold flowO
  split <;> simp
theorem flowAll_length (ss : List St) (rs os : List Int) : (flowAll ss rs os).2.length ≤ os.length + ss.length := by
  induction ss generalizing rs os with
  | nil => simp [flowAll]
  | cons s ss ih =>
    have h1 := ih (flowR rs s.op s.d s.a s.b s.c s.n) (flowO rs os s.op s.d s.a s.b s.c s.n)
    have h2 := flowO_length rs os s.op s.d s.a s.b s.c s.n
    simp only [flowAll, List.length_cons]
    omega
theorem depsI_length (ss : List St) : (depsI ss).length ≤ 120 := by
  unfold depsI
  split
  · rename_i h
    have := flowAll_length (unrollL ss) (List.replicate 8 0) []
    have := h.2
    unfold deps
    simp at *
    omega
  · simp
/-- Where every statement is valid, there is a number for each out. -/
theorem flowAll_outs {ss : List St} (hok : ∀ s ∈ ss, s.ok) {rs : List Int} (hr : rs.length = 8) (os : List Int) : (flowAll ss rs os).2.length = os.length + outs ss := by
  induction ss generalizing rs os with
  | nil => rfl
  | cons s ss ih =>
    have h0 : okI s.op s.d s.a s.b s.c s.n := hok s (List.mem_cons_self)
    simp only [flowAll, outs]
    rw [ih (fun t ht => hok t (List.mem_cons_of_mem _ ht)) (by rw [flowR_length]; exact hr)]
    unfold flowO
    by_cases h : s.op = 11
    · rw [if_pos ⟨h0, hr, h⟩, if_pos h]; simp; omega
    · rw [if_neg (fun e => h e.2.2), if_neg h]; omega
/-- What each statement of a program is, each of the unrolled program is. -/
theorem mach_all {Q : St → Prop} {ss : List St} (hs : ∀ s ∈ ss, Q s) {C : List St} {K : Fr} (hC : ∀ s ∈ C, Q s) (hK : ∀ f ∈ K, ∀ s ∈ f.2, Q s) : ∀ s ∈ (mach ss C K).1, Q s := by
  induction ss generalizing C K with
  | nil => exact hC
  | cons s ss ih =>
    have h0 := hs s (List.mem_cons_self)
    have ht : ∀ t ∈ ss, Q t := fun t h => hs t (List.mem_cons_of_mem _ h)
    simp only [mach]
    split
    · exact ih ht (fun _ h => by simp at h) (fun f hf => by
        rcases List.mem_cons.1 hf with rfl | hf
        · exact hC
        · exact hK f hf)
    · split
      · cases K with
        | nil => exact ih ht hC (fun f hf => by simp at hf)
        | cons f K =>
          refine ih ht (fun s hs => ?_) (fun g hg => hK g (List.mem_cons_of_mem _ hg))
          rcases List.mem_append.1 hs with hs | hs
          · exact hK f (List.mem_cons_self) s hs
          · exact hC s (rep_mem hs)
      · refine ih ht (fun t ht => ?_) hK
        rcases List.mem_append.1 ht with ht | ht
        · exact hC t ht
        · simp at ht; subst ht; exact h0
theorem unroll_ok {ss : List St} (h : progI ss) : ∀ s ∈ unrollL ss, s.ok := by
  refine mach_all (fun s hs => ?_) (fun _ h => by simp at h) (fun _ h => by simp at h)
  obtain ⟨k, hk, rfl⟩ := List.getElem_of_mem hs
  have := runD_ok h.2 k hk
  rwa [List.getD_eq_getElem?_getD, List.getElem?_eq_getElem hk, Option.getD_some] at this
theorem deps_outs {ss : List St} (h : progI ss) : (deps (unrollL ss)).length = outs (unrollL ss) := by
  unfold deps
  rw [flowAll_outs (unroll_ok h) (by simp)]
  simp
/-- The dependencies are among those that are allowed. -/
def within (ds al : List Int) : Prop := ds.length = al.length ∧ ∀ k, k < ds.length → 0 ≤ al.getD k 0 ∧ bits .andNot .i64 (ds.getD k 0) (al.getD k 0) = 0
instance (ds al : List Int) : Decidable (within ds al) := by unfold within; infer_instance
def flowOkI (ss : List St) (al : List Int) : Prop := unrI ss ∧ within (deps (unrollL ss)) al
instance (ss : List St) (al : List Int) : Decidable (flowOkI ss al) := by unfold flowOkI; infer_instance
/-- All bits of a list together. -/
theorem within_same {ds : List Int} (h : five ds) : within ds ds := ⟨rfl, fun k _ => ⟨(h.at_ k).1, (more_five (h.at_ k)).2.2.1⟩⟩
theorem within_more {ds : List Int} (h : five ds) : within ds (ds.map fun x => bits .or .i64 x 4) := by
  refine ⟨by simp, fun k hk => ?_⟩
  have e : (ds.map fun x => bits .or .i64 x 4).getD k 0 = bits .or .i64 (ds.getD k 0) 4 := by
    simp [List.getD_eq_getElem?_getD, List.getElem?_eq_getElem hk]
  rw [e]
  exact ⟨(more_five (h.at_ k)).1, (more_five (h.at_ k)).2.1⟩
def orList (l : List Int) (z : Int) : Int := match l with
  | [] => z
  | x :: l => orList l (bits .or .i64 z x)
theorem orList_step {l : List Int} {k : Nat} (hk : k < l.length) (z : Int) : orList (l.drop k) z = orList (l.drop (k + 1)) (bits .or .i64 z (l.getD k 0)) := by
  rw [List.drop_eq_getElem_cons hk, List.getD_eq_getElem?_getD, List.getElem?_eq_getElem hk]
  rfl
theorem orList_zero {l : List Int} (h : five l) {z : Int} (hz : 0 ≤ z ∧ z ≤ 31) : orList l z = 0 ↔ z = 0 ∧ ∀ x ∈ l, x = 0 := by
  induction l generalizing z with
  | nil => simp [orList]
  | cons x l ih =>
    have hx := h x (List.mem_cons_self)
    have ho := or_five hz hx
    show orList l (bits .or .i64 z x) = 0 ↔ _
    rw [ih (fun y hy => h y (List.mem_cons_of_mem _ hy)) ho.1, ho.2]
    simp [and_assoc]
theorem within_none {ds : List Int} (h : five ds) : within ds (List.replicate ds.length 0) ↔ orList ds 0 = 0 := by
  rw [orList_zero h (by omega)]
  constructor
  · rintro ⟨_, hk⟩
    refine ⟨rfl, fun x hx => ?_⟩
    obtain ⟨k, hkl, rfl⟩ := List.getElem_of_mem hx
    have h2 := (hk k hkl).2
    rw [show (List.replicate ds.length (0 : Int)).getD k 0 = 0 by simp [List.getD_eq_getElem?_getD, hkl], (more_five (h.at_ k)).2.2.2, List.getD_eq_getElem?_getD, List.getElem?_eq_getElem hkl] at h2
    exact h2
  · rintro ⟨_, hx⟩
    refine ⟨by simp, fun k hk => ?_⟩
    have e : (List.replicate ds.length (0 : Int)).getD k 0 = 0 := by simp [List.getD_eq_getElem?_getD, hk]
    rw [e, (more_five (h.at_ k)).2.2.2, List.getD_eq_getElem?_getD, List.getElem?_eq_getElem hk]
    exact ⟨Int.le_refl _, hx _ (List.getElem_mem hk)⟩
end Go.Proofs.Ytlaidjibcpfnjaa

namespace Go.Proofs.Ytlaidjibcpfnjaa
open Go Go.RowKit
theorem eight {l : List Int} (h : l.length = 8) : ∃ a b c d e f g i : Int, l = [a, b, c, d, e, f, g, i] := by
  match l, h with
  | [a, b, c, d, e, f, g, i], _ => exact ⟨a, b, c, d, e, f, g, i, rfl⟩
/-- Eight numbers as cells. -/
def cells8 (l : List Int) : Array Value := (intVals l).toArray
theorem cells8_at {l : List Int} {k : Nat} (hk : k < l.length) : (cells8 l)[k]? = some (.int .i64 (l.getD k 0)) := by
  simp [cells8, intVals, List.getElem?_map, List.getD_eq_getElem?_getD, List.getElem?_eq_getElem hk]
def inRegs (l : List Int) : Prop := ∀ z ∈ l, 0 ≤ z ∧ z ≤ 7
theorem inRegs.at_ {l : List Int} (h : inRegs l) {k : Nat} (hk : k < l.length) : 0 ≤ l.getD k 0 ∧ l.getD k 0 ≤ 7 := by
  rw [List.getD_eq_getElem?_getD, List.getElem?_eq_getElem hk]
  exact h _ (List.getElem_mem hk)
set_option maxRecDepth 100000 in
theorem impl_union (rs : List Int) (h8 : rs.length = 8) (A : Option Addr) (n c : Nat) (xs : List Int) (w : World) (hx : Ints w A xs) (lx : xs.length = n) (mx : n ≤ 2000000) (hr : inRegs xs) :
    Calls Try.prog 83 #[.agg (cells8 rs), .slice A n c] w fun e w' => e = .returned (.int .i64 (orAll rs xs 0)) ∧ Below w.heap.size w w' := by
  have b0 := heap_alloc_new w (.cells (cells8 rs) 119)
  have low := (Below.refl w.heap.size w).alloc (Nat.le_refl _) (.cells (cells8 rs) 119)
  have LX := Lib.hid lx
  have H8 := Lib.hid h8
  clear lx h8
  generalize hcs : cells8 rs = cs at *
  have Hcs := Lib.hid hcs
  clear hcs
  go_enter Try.func83, Try.ntmps83
  go_wp2_with fail
  generalize hw0 : w.alloc (.cells cs 119) = w0 at *
  clear hw0
  have hx0 := (hx.bound.below low).ints low.size
  clear hx
  go_loopw [5, 10] (fun v i wr => ∃ k : Nat, k ≤ n ∧ i = .int .i64 k ∧ v = .int .i64 (orAll rs (xs.take k) 0) ∧ Hid (wr = w0)) (fun _ i _ => n - (intOf i).toNat)
  case atStart => exact ⟨0, Nat.zero_le _, rfl, rfl, Lib.hid rfl⟩
  case round =>
    obtain ⟨k, hk, rfl, rfl, hw⟩ := hrel
    obtain rfl : w0 = wr := hw.out.symm
    clear hw
    by_cases hlt : k < n
    · have hkl : k < xs.length := by rw [LX.out]; exact hlt
      obtain ⟨g, o, rfl, _, hc⟩ := hx0.at_ hkl
      obtain ⟨r0, r7⟩ := hr.at_ hkl
      have hstep := Lib.hid (orAll_step (rs := rs) hkl 0)
      generalize hz : xs.getD k 0 = r at hc r0 r7 hstep
      have hcell := (blk (i := r.toNat) b0 (by rw [← Hcs.out]; exact cells8_at (by rw [H8.out]; omega))).1
      generalize orAll rs (xs.take k) 0 = acc at *
      generalize rs.getD r.toNat 0 = y at *
      have Hz := Lib.hid hz
      have hk0 : (0 : Int) ≤ k := by omega
      have hk1 : (k : Int) < n := by omega
      have r8 : r < 8 := by omega
      clear hx0 hz hkl hr r7
      go_wp2_with fail
      go_roundw
      case rel => exact ⟨k + 1, by omega, by go_num, by rw [hstep.out], Lib.hid (by trivial)⟩
      case measure => simp [intOf]; omega
    · obtain rfl : k = n := by omega
      have hall : xs.take k = xs := List.take_of_length_le (by rw [LX.out]; exact Nat.le_refl _)
      rw [hall]
      go_wp2_with fail
      go_ret
      exact ⟨rfl, low⟩
theorem impl_union8 (r0 r1 r2 r3 r4 r5 r6 r7 : Int) (A : Option Addr) (n c : Nat) (xs : List Int) (w : World) (hx : Ints w A xs) (lx : xs.length = n) (mx : n ≤ 2000000) (hr : inRegs xs) :
    Calls Try.prog 83 #[.agg #[.int .i64 r0, .int .i64 r1, .int .i64 r2, .int .i64 r3, .int .i64 r4, .int .i64 r5, .int .i64 r6, .int .i64 r7], .slice A n c] w fun e w' => e = .returned (.int .i64 (orAll [r0, r1, r2, r3, r4, r5, r6, r7] xs 0)) ∧ Below w.heap.size w w' :=
  impl_union [r0, r1, r2, r3, r4, r5, r6, r7] rfl A n c xs w hx lx mx hr
end Go.Proofs.Ytlaidjibcpfnjaa

namespace Go.Proofs.Ytlaidjibcpfnjaa
open Go Go.RowKit
theorem impl_FlowNew (w : World) : Calls Try.prog 57 #[] w (Post_Flow (List.replicate 8 0) [] w) := by
  have b0 := heap_alloc_new w (.cells #[.slice none 0 0, .slice none 0 0] 75)
  have low := (Below.refl w.heap.size w).alloc (Nat.le_refl _) (.cells #[.slice none 0 0, .slice none 0 0] 75)
  go_enter Try.func57, Try.ntmps57
  go_wp2_with (first | (refine make_fullI Try.underlying28 infoInt rfl rfl _ _ rfl (w.heap.size + 1) _ _ _ _ 8 rfl rfl rfl rfl (by omega) (by unfold maxLen; omega) (by simp) ?_))
  intro w1 hown hg
  have b1 := heap_grown b0 hg (by simp)
  have low1 := low.grown hg low.size (fun k h => by cases h)
  obtain ⟨c0, f0⟩ := blk (i := 0) b1 rfl
  obtain ⟨c1, f1⟩ := blk (i := 1) b1 rfl
  have Ho := Lib.hid hown
  clear hown hg b0 low
  go_wp2_with fail
  have h0 : w1.ownsRow (w.heap.size + 1) 3 1 (.slice (some ⟨w.heap.size + 1, 0, none⟩) 8 8) 8 (intVals (List.replicate 8 0)) := Ho.out
  have ho := ((OwnA.of_own h0).setFar (g := w.heap.size) (i := 0) (by omega) (.slice (some ⟨w.heap.size + 1, 0, none⟩) 8 8)).setFar (g := w.heap.size) (i := 1) (by omega) (.slice none 0 0)
  have b2 := heap_set (i := 1) (heap_set (i := 0) b1 (.slice (some ⟨w.heap.size + 1, 0, none⟩) 8 8)) (.slice none 0 0)
  refine bodyPost_ret (results_cell_row (P := Try.prog) rfl _ _ w.heap.size 75 _ (0, 0) _ rfl b2 Try.underlying75 rfl (by kernel_rfl)) rfl ?_
  exact ⟨_, none, 8, 0, 8, 0, rfl, ⟨ho.wide (by omega) (by simp), OwnA.nil _ _ _ _, (apart.nil _ _ _).symm⟩, (low1.setCell (Nat.le_refl _) _).setCell (Nat.le_refl _) _⟩
end Go.Proofs.Ytlaidjibcpfnjaa

namespace Go.Proofs.Ytlaidjibcpfnjaa
open Go Go.RowKit
/-- The three boxes of FlowStep: the flow, the statement, the result. -/
structure Bx3F (w wr : World) (fs ss rs : Array Value) : Prop where
  f : wr.heap[w.heap.size]? = some (.cells fs 75 (0, 0))
  s : wr.heap[w.heap.size + 1]? = some (.cells ss 42 (0, 0))
  r : wr.heap[w.heap.size + 2]? = some (.cells rs 75 (0, 0))
  low : Below w.heap.size w wr
theorem Bx3F.start (w : World) (fs ss rs : Array Value) : Bx3F w (((w.alloc (.cells fs 75)).alloc (.cells ss 42)).alloc (.cells rs 75)) fs ss rs := by
  have b := Bx3.start w 75 fs 42 ss 75 rs
  exact ⟨b.two.arg, b.two.res, b.out, b.two.low⟩
theorem Bx3F.next {w wr w1 : World} {fs ss rs : Array Value} (h : Bx3F w wr fs ss rs) (hb : Below wr.heap.size wr w1) : Bx3F w w1 fs ss rs :=
  ⟨heap_below h.f hb, heap_below h.s hb, heap_below h.r hb, h.low.trans (hb.mono h.low.size)⟩
theorem Bx3F.lt {w wr : World} {fs ss rs : Array Value} (h : Bx3F w wr fs ss rs) : w.heap.size + 2 < wr.heap.size := heap_lt h.r
theorem Bx3F.far {w wr : World} {fs ss rs : Array Value} (h : Bx3F w wr fs ss rs) {g : Nat} (hg : w.heap.size + 2 < g) (i : Nat) (v : Value) : Bx3F w (wr.setCell ⟨g, i, none⟩ v) fs ss rs :=
  ⟨heap_far h.f (by simp; omega) v, heap_far h.s (by simp; omega) v, heap_far h.r (by simp; omega) v, h.low.setCell (by simp; omega) _⟩
theorem Bx3F.drew {w wr : World} {fs ss rs : Array Value} (h : Bx3F w wr fs ss rs) : Bx3F w wr.drew fs ss rs := ⟨h.f, h.s, h.r, h.low.drew⟩
theorem Bx3F.grown {w wr w1 : World} {fs ss rs : Array Value} {row : Option Nat} (h : Bx3F w wr fs ss rs) (hg : wr.grownBy w1 row) (hr : ∀ k, row = some k → w.heap.size + 2 < k) : Bx3F w w1 fs ss rs :=
  ⟨heap_grown h.f hg (fun e => by have := hr _ e; omega), heap_grown h.s hg (fun e => by have := hr _ e; omega), heap_grown h.r hg (fun e => by have := hr _ e; omega), h.low.grown hg h.low.size (fun k e => by have := hr k e; omega)⟩
/-- The result is stored and handed back. -/
theorem flow_out {w wr : World} {fs ss : Array Value} {u v : Value} {A0 A1 : Option Addr} {n0 n1 c0 c1 lo hi : Nat} {z0 z1 : List Int} (h : Bx3F w wr fs ss #[u, v]) (o : OwnFlow lo hi wr (.slice A0 n0 c0) (.slice A1 n1 c1) n0 n1 z0 z1)
    (hlo : w.heap.size + 2 < lo) (hhi : hi ≤ wr.heap.size) (tmps : Array Value) (ht : tmps.getD 4 undef = .pointer (some ⟨w.heap.size + 2, 0, none⟩)) :
    bodyPost Try.prog Try.f58 (Post_Flow z0 z1 w) Exit.ret { tmps := tmps, defers := [] } ((wr.setCell ⟨w.heap.size + 2, 0, none⟩ (.slice A0 n0 c0)).setCell ⟨w.heap.size + 2, 1, none⟩ (.slice A1 n1 c1)) := by
  have b2 := heap_set (i := 1) (heap_set (i := 0) h.r (.slice A0 n0 c0)) (.slice A1 n1 c1)
  have o2 := (o.setFar (g := w.heap.size + 2) (i := 0) hlo (.slice A0 n0 c0)).setFar (g := w.heap.size + 2) (i := 1) hlo (.slice A1 n1 c1)
  refine bodyPost_ret (results_cell_row (P := Try.prog) rfl _ _ (w.heap.size + 2) 75 _ (0, 0) _ ht b2 Try.underlying75 rfl (by kernel_rfl)) rfl ?_
  exact ⟨_, _, _, _, _, _, rfl, o2.wide (by omega) (by simpa using hhi), (h.low.setCell (by simp) _).setCell (by simp) _⟩
set_option maxRecDepth 100000 in
theorem impl_FlowStep_no (A0 A1 : Option Addr) (c0 c1 n0 n1 : Nat) (rs os : List Int) (op d a b c n : Int) (w : World) (h0 : Ints w A0 rs) (l0 : rs.length = n0) (m0 : n0 ≤ 2000000) (h1 : Ints w A1 os) (l1 : os.length = n1) (m1 : n1 ≤ 2000000) (hok : ¬ okI op d a b c n) :
    Calls Try.prog 58 #[.agg #[.slice A0 n0 c0, .slice A1 n1 c1], .agg #[.int .i64 op, .int .i64 d, .int .i64 a, .int .i64 b, .int .i64 c, .int .i64 n]] w (Post_Flow rs os w) := by
  have k0 := Bx3F.start w #[.slice A0 n0 c0, .slice A1 n1 c1] #[.int .i64 op, .int .i64 d, .int .i64 a, .int .i64 b, .int .i64 c, .int .i64 n] #[.slice none 0 0, .slice none 0 0]
  have cN := impl_newStatement op d a b c n
  rw [show newV op d a b c n = none from if_neg hok] at cN
  simp only [usedV] at cN
  have L0 := Lib.hid l0
  have L1 := Lib.hid l1
  have i0 := h0.bound
  have i1 := h1.bound
  clear l0 l1 h0 h1 hok
  go_enter Try.func58, Try.ntmps58
  go_wp2_with fail
  generalize hw0 : ((w.alloc (.cells #[.slice A0 n0 c0, .slice A1 n1 c1] 75)).alloc (.cells #[.int .i64 op, .int .i64 d, .int .i64 a, .int .i64 b, .int .i64 c, .int .i64 n] 42)).alloc (.cells #[.slice none 0 0, .slice none 0 0] 75) = w0 at *
  clear hw0
  refine (impl_CloneI A1 n1 c1 os w0 ((i1.below k0.low).ints k0.low.size) L1.out m1).mono ?_
  rintro e w1 ⟨B1, q1, d1, rfl, e1, o1, hb1⟩
  obtain rfl : q1 = n1 := by rw [← e1, L1.out]
  have s1 := k0.lt
  have t1 := hb1.size
  replace k0 := k0.next hb1
  clear hb1 e1
  obtain ⟨x0, _⟩ := blk (i := 0) k0.s rfl
  obtain ⟨x1, _⟩ := blk (i := 1) k0.s rfl
  obtain ⟨x2, _⟩ := blk (i := 2) k0.s rfl
  obtain ⟨x3, _⟩ := blk (i := 3) k0.s rfl
  obtain ⟨x4, _⟩ := blk (i := 4) k0.s rfl
  obtain ⟨x5, _⟩ := blk (i := 5) k0.s rfl
  go_wp2_with fail
  refine (cN w1).mono ?_
  rintro e w2 ⟨rfl, hb2⟩
  have t2 := hb2.size
  replace k0 := k0.next hb2
  replace o1 := o1.below hb2
  clear hb2 x0 x1 x2 x3 x4 x5
  obtain ⟨x0, _⟩ := blk (i := 0) k0.f rfl
  go_wp2_with fail
  refine (impl_CloneI A0 n0 c0 rs w2 ((i0.below k0.low).ints k0.low.size) L0.out m0).mono ?_
  rintro e w3 ⟨B0, q0, d0, rfl, e0, o0, hb3⟩
  obtain rfl : q0 = n0 := by rw [← e0, L0.out]
  have t3 := hb3.size
  replace k0 := k0.next hb3
  replace o1 := o1.below hb3
  clear hb3 e0 x0
  obtain ⟨y0, f0⟩ := blk (i := 0) k0.r rfl
  obtain ⟨y1, f1⟩ := blk (i := 1) k0.r rfl
  have K := Lib.hid k0
  have O0 := Lib.hid o0
  have O1 := Lib.hid o1
  clear k0 o0 o1 i0 i1
  go_wp2_with fail
  exact flow_out (lo := w0.heap.size) K.out ⟨O0.out.any.wide (by omega) (Nat.le_refl _), O1.out.any.wide (by omega) (by omega), (O1.out.any.apart_of O0.out.any (by omega)).symm⟩ (by omega) (Nat.le_refl _) _ rfl
set_option maxRecDepth 100000 in
theorem impl_FlowStep_len (A0 A1 : Option Addr) (c0 c1 n0 n1 : Nat) (rs os : List Int) (op d a b c n : Int) (w : World) (h0 : Ints w A0 rs) (l0 : rs.length = n0) (m0 : n0 ≤ 2000000) (h1 : Ints w A1 os) (l1 : os.length = n1) (m1 : n1 ≤ 2000000) (hok : okI op d a b c n) (h8 : rs.length ≠ 8) :
    Calls Try.prog 58 #[.agg #[.slice A0 n0 c0, .slice A1 n1 c1], .agg #[.int .i64 op, .int .i64 d, .int .i64 a, .int .i64 b, .int .i64 c, .int .i64 n]] w (Post_Flow rs os w) := by
  have k0 := Bx3F.start w #[.slice A0 n0 c0, .slice A1 n1 c1] #[.int .i64 op, .int .i64 d, .int .i64 a, .int .i64 b, .int .i64 c, .int .i64 n] #[.slice none 0 0, .slice none 0 0]
  have cN := impl_newStatement op d a b c n
  rcases new_any op d a b c n with ⟨hno, -⟩ | ⟨t, -, e, -⟩
  · exact absurd hok hno
  rw [e] at cN
  simp only [usedV] at cN
  have hne : ¬ (n0 : Int) = 8 := by omega
  have L0 := Lib.hid l0
  have L1 := Lib.hid l1
  have i0 := h0.bound
  have i1 := h1.bound
  generalize t.v = tv at *
  clear l0 l1 h0 h1 hok h8 e
  go_enter Try.func58, Try.ntmps58
  go_wp2_with fail
  generalize hw0 : ((w.alloc (.cells #[.slice A0 n0 c0, .slice A1 n1 c1] 75)).alloc (.cells #[.int .i64 op, .int .i64 d, .int .i64 a, .int .i64 b, .int .i64 c, .int .i64 n] 42)).alloc (.cells #[.slice none 0 0, .slice none 0 0] 75) = w0 at *
  clear hw0
  refine (impl_CloneI A1 n1 c1 os w0 ((i1.below k0.low).ints k0.low.size) L1.out m1).mono ?_
  rintro e w1 ⟨B1, q1, d1, rfl, e1, o1, hb1⟩
  obtain rfl : q1 = n1 := by rw [← e1, L1.out]
  have s1 := k0.lt
  have t1 := hb1.size
  replace k0 := k0.next hb1
  clear hb1 e1
  obtain ⟨x0, _⟩ := blk (i := 0) k0.s rfl
  obtain ⟨x1, _⟩ := blk (i := 1) k0.s rfl
  obtain ⟨x2, _⟩ := blk (i := 2) k0.s rfl
  obtain ⟨x3, _⟩ := blk (i := 3) k0.s rfl
  obtain ⟨x4, _⟩ := blk (i := 4) k0.s rfl
  obtain ⟨x5, _⟩ := blk (i := 5) k0.s rfl
  go_wp2_with fail
  refine (cN w1).mono ?_
  rintro e w2 ⟨rfl, hb2⟩
  have t2 := hb2.size
  replace k0 := k0.next hb2
  replace o1 := o1.below hb2
  clear hb2 x0 x1 x2 x3 x4 x5
  obtain ⟨x0, _⟩ := blk (i := 0) k0.f rfl
  go_wp2_with fail
  refine (impl_CloneI A0 n0 c0 rs w2 ((i0.below k0.low).ints k0.low.size) L0.out m0).mono ?_
  rintro e w3 ⟨B0, q0, d0, rfl, e0, o0, hb3⟩
  obtain rfl : q0 = n0 := by rw [← e0, L0.out]
  have t3 := hb3.size
  replace k0 := k0.next hb3
  replace o1 := o1.below hb3
  clear hb3 e0 x0
  obtain ⟨y0, f0⟩ := blk (i := 0) k0.r rfl
  obtain ⟨y1, f1⟩ := blk (i := 1) k0.r rfl
  have K := Lib.hid k0
  have O0 := Lib.hid o0
  have O1 := Lib.hid o1
  clear k0 o0 o1 i0 i1
  go_wp2_with fail
  exact flow_out (lo := w0.heap.size) K.out ⟨O0.out.any.wide (by omega) (Nat.le_refl _), O1.out.any.wide (by omega) (by omega), (O1.out.any.apart_of O0.out.any (by omega)).symm⟩ (by omega) (Nat.le_refl _) _ rfl
end Go.Proofs.Ytlaidjibcpfnjaa

namespace Go.Proofs.Ytlaidjibcpfnjaa
open Go Go.RowKit
theorem ty_what {op d a b c n : Int} {t : Ty} (h : tyOf op d a b c n = some t) : (op = 2 ∧ t = .inp d a n) ∨ (op = 11 ∧ t = .out a) ∨ (op ≠ 2 ∧ op ≠ 11 ∧ (∀ x y z, t ≠ .inp x y z) ∧ ∀ x, t ≠ .out x) := by
  rcases @tyOf_cases op d a b c n with ⟨h1, e⟩ | ⟨h1, e⟩ | ⟨h1, e⟩ | ⟨h1, e⟩ | ⟨h1, e⟩ | ⟨h1, e⟩ | ⟨h1, e⟩ | ⟨h1, e⟩ <;> rw [e] at h <;> cases h
  · exact .inr (.inr ⟨by omega, by omega, (fun _ _ _ e => by cases e), (fun _ e => by cases e)⟩)
  · exact .inl ⟨h1, rfl⟩
  · exact .inr (.inr ⟨by omega, by omega, (fun _ _ _ e => by cases e), (fun _ e => by cases e)⟩)
  · exact .inr (.inr ⟨by omega, by omega, (fun _ _ _ e => by cases e), (fun _ e => by cases e)⟩)
  · exact .inr (.inl ⟨h1, rfl⟩)
  · exact .inr (.inr ⟨by omega, by omega, (fun _ _ _ e => by cases e), (fun _ e => by cases e)⟩)
  · exact .inr (.inr ⟨by omega, by omega, (fun _ _ _ e => by cases e), (fun _ e => by cases e)⟩)
theorem cells8_set (l : List Int) (k : Nat) (x : Int) : (cells8 l).setIfInBounds k (.int .i64 x) = cells8 (l.set k x) := by
  apply Array.ext'
  simp [cells8, intVals, List.map_set]
theorem own8 {w : World} {g lo : Nat} {T : TypeId} {rs : List Int} (h : w.heap[g]? = some (.cells (cells8 rs) T (0, 0))) (hl : rs.length = 8) (hlo : lo ≤ g) : OwnA 1 lo (g + 1) w (.slice (some ⟨g, 0, none⟩) 8 8) 8 rs := by
  refine ⟨⟨T, by rw [intVals_length, hl], .inr ⟨g, 8, cells8 rs, rfl, hlo, h, Nat.le_refl _, by unfold maxLen; omega, by simp [cells8, intVals, hl], ?_⟩⟩, fun k e => ?_⟩
  · rw [List.take_of_length_le (by simp [cells8, intVals, hl])]
    simp [cells8]
  · have : g = k := by simpa [Value.ownBlock] using e
    omega
theorem splice_all {L cs : List Value} (h : L.length = cs.length) : splice L 0 cs = cs := by
  unfold splice
  rw [List.take_zero, List.nil_append, Nat.zero_add, ← h, List.drop_length, List.append_nil]
theorem src_row {w : World} {A0 : Option Addr} {rs : List Int} (hz : Ints w A0 rs) (h0 : 0 < rs.length) : ∃ ad, A0 = some ad ∧ ∀ j v, (intVals rs)[j]? = some v → w.cell? (ad.add j) = some v := by
  obtain ⟨b, o, hA, _, hc⟩ := hz h0
  refine ⟨⟨b, o, none⟩, hA, fun j u hu => ?_⟩
  have hj : j < rs.length := by
    rcases Nat.lt_or_ge j rs.length with h | h
    · exact h
    · rw [List.getElem?_eq_none (by rw [intVals_length]; exact h)] at hu; cases hu
  have hadd : (⟨b, o, none⟩ : Addr).add j = ⟨b, o + j, none⟩ := by
    rcases Nat.eq_zero_or_pos j with h | h
    · subst h; simp [Addr.add]
    · simp [Addr.add, Nat.ne_of_gt h]
  rw [hadd, hc j hj, ← hu]
  simp [intVals, List.getD_eq_getElem?_getD, List.getElem?_eq_getElem hj]
set_option maxRecDepth 100000 in
set_option maxHeartbeats 1000000 in
theorem impl_FlowStep_yes (A0 A1 : Option Addr) (c0 c1 n1 : Nat) (rs os : List Int) (op d a b c n : Int) (w : World) (h0 : Ints w A0 rs) (l0 : rs.length = 8) (h1 : Ints w A1 os) (l1 : os.length = n1) (m1 : n1 ≤ 1999999) (hok : okI op d a b c n) :
    Calls Try.prog 58 #[.agg #[.slice A0 8 c0, .slice A1 n1 c1], .agg #[.int .i64 op, .int .i64 d, .int .i64 a, .int .i64 b, .int .i64 c, .int .i64 n]] w (Post_Flow (flowR rs op d a b c n) (flowO rs os op d a b c n) w) := by
  have k0 := Bx3F.start w #[.slice A0 8 c0, .slice A1 n1 c1] #[.int .i64 op, .int .i64 d, .int .i64 a, .int .i64 b, .int .i64 c, .int .i64 n] #[.slice none 0 0, .slice none 0 0]
  have cN := impl_newStatement op d a b c n
  rcases newV_cases op d a b c n with ⟨hno, -⟩ | ⟨t, -, e, hreads, hop, hset, hnot, hcase, hty⟩
  · exact absurd hok hno
  rw [e] at cN
  simp only [usedV] at cN
  have L0 := Lib.hid l0
  have L1 := Lib.hid l1
  have i0 := h0.bound
  have i1 := h1.bound
  have Hty := Lib.hid (ty_what hty)
  have Hreads := Lib.hid hreads
  have Hset := Lib.hid hset
  have Hnot := Lib.hid hnot
  clear l0 l1 h0 h1 e hop hcase hty hreads hset hnot
  go_enter Try.func58, Try.ntmps58
  go_wp2_with fail
  generalize hw0 : ((w.alloc (.cells #[.slice A0 8 c0, .slice A1 n1 c1] 75)).alloc (.cells #[.int .i64 op, .int .i64 d, .int .i64 a, .int .i64 b, .int .i64 c, .int .i64 n] 42)).alloc (.cells #[.slice none 0 0, .slice none 0 0] 75) = w0 at *
  clear hw0
  refine (impl_CloneI A1 n1 c1 os w0 ((i1.below k0.low).ints k0.low.size) L1.out (by omega)).mono ?_
  rintro e w1 ⟨B1, q1, d1, rfl, e1, o1, hb1⟩
  obtain rfl : q1 = n1 := by rw [← e1, L1.out]
  have s1 := k0.lt
  have t1 := hb1.size
  replace k0 := k0.next hb1
  clear hb1 e1
  obtain ⟨x0, -⟩ := blk (i := 0) k0.s rfl
  obtain ⟨x1, -⟩ := blk (i := 1) k0.s rfl
  obtain ⟨x2, -⟩ := blk (i := 2) k0.s rfl
  obtain ⟨x3, -⟩ := blk (i := 3) k0.s rfl
  obtain ⟨x4, -⟩ := blk (i := 4) k0.s rfl
  obtain ⟨x5, -⟩ := blk (i := 5) k0.s rfl
  go_wp2_with fail
  refine (cN w1).mono ?_
  rintro e w2 ⟨rfl, hb2⟩
  have t2 := hb2.size
  replace k0 := k0.next hb2
  replace o1 := o1.below hb2
  clear hb2 x0 x1 x2 x3 x4 x5
  obtain ⟨x0, -⟩ := blk (i := 0) k0.f rfl
  go_wp2_with fail
  have b8 := heap_alloc_new w2 (.cells #[.int .i64 0, .int .i64 0, .int .i64 0, .int .i64 0, .int .i64 0, .int .i64 0, .int .i64 0, .int .i64 0] 119)
  have low8 := (Below.refl w2.heap.size w2).alloc (Nat.le_refl _) (.cells #[.int .i64 0, .int .i64 0, .int .i64 0, .int .i64 0, .int .i64 0, .int .i64 0, .int .i64 0, .int .i64 0] 119)
  have x8 := (low8.cell (p := ⟨w.heap.size, 0, none⟩) (World.block_lt_of_cell? _ _ x0)).trans x0
  generalize w2.alloc (.cells #[.int .i64 0, .int .i64 0, .int .i64 0, .int .i64 0, .int .i64 0, .int .i64 0, .int .i64 0, .int .i64 0] 119) = w8 at *
  have low8d : Below w2.heap.size w2 w8.drew := low8.drew
  have src : ∃ ad, A0 = some ad ∧ ∀ j v, (intVals rs)[j]? = some v → w8.drew.cell? (ad.add j) = some v := src_row (((i0.below k0.low).ints k0.low.size).below low8d) (by rw [L0.out]; omega)
  have Src := Lib.hid src
  have Hlen := Lib.hid (show (intVals rs).length = 8 by rw [intVals_length, L0.out])
  clear x0 src cN
  go_region_law (refine step_copy_splice rfl (.tmp 36) (.tmp 38) 28 28 rfl 3 Try.underlying28 (by kernel_rfl) (some ⟨w2.heap.size, 0, none⟩) A0 8 8 8 c0 rfl rfl w2.heap.size 0 [.int .i64 0, .int .i64 0, .int .i64 0, .int .i64 0, .int .i64 0, .int .i64 0, .int .i64 0, .int .i64 0] 119 b8 (intVals rs) Hlen.out (fun _ => ⟨rfl, Src.out⟩) (by rw [Hlen.out]; decide) (oneCell_i64 rs) w2.heap.size w2 low8d (Nat.le_refl _) ?_; intro w4 hg4 hb4)
  have hcells : w4.heap[w2.heap.size]? = some (.cells (cells8 rs) 119 (0, 0)) := by
    have h := hg4.out
    rw [splice_all (by rw [Hlen.out]; rfl)] at h
    exact h
  have K := Lib.hid (k0.next hb4)
  have O1 := Lib.hid (o1.below hb4)
  have s8 := heap_lt hcells
  clear hg4 hb4 k0 o1 b8 low8 low8d x8 Src i0 i1
  generalize w2.heap.size = g8 at *
  rcases Hty.out with ⟨rfl, rfl⟩ | ⟨rfl, rfl⟩ | ⟨h2, h11, hni, hno⟩
  · have hR : flowR rs 2 d a b c n = rs.set d.toNat (bitP a) := by unfold flowR; rw [if_pos ⟨hok, L0.out, by omega⟩, if_pos rfl]
    have hO : flowO rs os 2 d a b c n = os := by unfold flowO; rw [if_neg (by omega)]
    have hd : 0 ≤ d ∧ d < 8 ∧ 0 ≤ a ∧ a ≤ 4 := by unfold okI isReg at hok; omega
    obtain ⟨hd0, hd8, ha0, ha4⟩ := hd
    have HR := Lib.hid hR
    have HO := Lib.hid hO
    have as1 := as_inp (.inp d a n)
    simp only [Ty.v] at *
    clear hR hO hok Hty Hreads Hset Hnot
    go_wp2_with fail
    have b9 := heap_alloc_new w4 (.cells #[.int .i64 d, .int .i64 a, .int .i64 n] 97)
    have hb5 := below_alloc w4 (.cells #[.int .i64 d, .int .i64 a, .int .i64 n] 97)
    have hc5 := heap_below hcells hb5
    replace K := Lib.hid (K.out.next hb5)
    replace O1 := Lib.hid (O1.out.below hb5)
    generalize w4.alloc (.cells #[.int .i64 d, .int .i64 a, .int .i64 n] 97) = w5 at *
    have q0 := (blk (i := 0) b9 rfl).1
    have q1 := (blk (i := 1) b9 rfl).1
    have q8 := blk (i := d.toNat) hc5 (cells8_at (by rw [L0.out]; omega))
    obtain ⟨q8, f8⟩ := q8
    have hbit := Lib.hid (bit_shl (a := a) (by omega))
    have s9 := hb5.size
    have s2 : w.heap.size + 2 < g8 := by omega
    have K6 := (K.out.far s2 d.toNat (.int .i64 (bitP a))).drew
    have O6 := Lib.hid ((O1.out.setFar' (g := g8) (i := d.toNat) t2 (.int .i64 (bitP a))).drew)
    have C6 : (w5.setCell ⟨g8, d.toNat, none⟩ (.int .i64 (bitP a))).drew.heap[g8]? = some (.cells (cells8 (rs.set d.toNat (bitP a))) 119 (0, 0)) := by
      have h := heap_set (i := d.toNat) hc5 (.int .i64 (bitP a))
      rw [cells8_set] at h
      exact h
    clear hb5 hcells as1 K O1
    go_region
    rw [hbit.out]
    generalize (w5.setCell ⟨g8, d.toNat, none⟩ (.int .i64 (bitP a))).drew = w6 at *
    have s6 := heap_lt C6
    obtain ⟨yc0, yf0⟩ := blk (i := 0) K6.r rfl
    obtain ⟨yc1, yf1⟩ := blk (i := 1) K6.r rfl
    have oR := Lib.hid (own8 (lo := g8) C6 (by rw [List.length_set, L0.out]) (Nat.le_refl _))
    have K := Lib.hid K6
    clear K6 C6 hc5 b9 q0 q1 q8 f8
    go_wp2_with fail
    rw [HR.out, HO.out]
    exact flow_out (lo := w0.heap.size) K.out ⟨oR.out.wide (by omega) s6, O6.out.any.wide (Nat.le_refl _) (by omega), (O6.out.any.apart_of oR.out (by omega)).symm⟩ (by omega) (Nat.le_refl _) _ rfl
  · have hR : flowR rs 11 d a b c n = rs := by unfold flowR; rw [if_neg (by omega)]
    have hO : flowO rs os 11 d a b c n = os ++ [rs.getD a.toNat 0] := by unfold flowO; rw [if_pos ⟨hok, L0.out, rfl⟩]
    have hd : 0 ≤ a ∧ a < 8 := by unfold okI isReg at hok; omega
    obtain ⟨ha0, ha8⟩ := hd
    have HR := Lib.hid hR
    have HO := Lib.hid hO
    have as1 := as_inp (.out a)
    have as2 := as_out (.out a)
    simp only [Ty.v] at *
    clear hR hO hok Hty Hreads Hset Hnot
    go_upto_region 17 with (fail)
    have b9 := heap_alloc_new w4 (.cells #[.int .i64 a] 104)
    have hb5 := below_alloc w4 (.cells #[.int .i64 a] 104)
    have hc5 := heap_below hcells hb5
    replace K := Lib.hid (K.out.next hb5)
    replace O1 := Lib.hid (O1.out.below hb5)
    generalize w4.alloc (.cells #[.int .i64 a] 104) = w5 at *
    have q0 := (blk (i := 0) b9 rfl).1
    have q8 := (blk (i := a.toNat) hc5 (cells8_at (by rw [L0.out]; omega))).1
    have Hx : Hid (os ++ [rs.getD a.toNat 0] = os ++ [rs.getD a.toNat 0]) := Lib.hid rfl
    obtain ⟨x, hx⟩ : ∃ x, x = rs.getD a.toNat 0 := ⟨_, rfl⟩
    rw [← hx] at q8
    have hX := Lib.hid hx
    have s9 := hb5.size
    have K7 := K.out.next (below_alloc w5 (.cells #[.int .i64 x] 3))
    have O7 := O1.out.alloc (.cells #[.int .i64 x] 3)
    have C7 := heap_alloc hc5 (.cells #[.int .i64 x] 3)
    have s2 : w.heap.size + 2 < g8 := by omega
    have sB := O7.own.lt
    clear hb5 hcells as1 as2 K O1 Hx hx b9
    go_wp2_with (first | (at_builtin; refine app_list (e' := 3) elemInt rfl _ _ rfl w0.heap.size _ q1 (intVals os) rfl O7.own w5.heap.size 1 1 _ (0, 0) rfl (heap_alloc_new w5 _) rfl (oneCell_i64 [_]) (by omega) (by unfold maxLen; omega) (by omega) (by simp; omega) (w5.heap.size + 1) (by simp) ?_))
    intro g7 cap w7 ho7 hg7 hat7 hl7
    have ht7 := O7.top
    have K8 := K7.grown hg7 (fun k e => by have := sB k e; omega)
    have C8 := heap_grown C7 hg7 (fun e => by have := ht7 _ e; omega)
    have hne : g7 ≠ g8 := by
      rcases hat7 with e | e
      · have := ht7 _ e; omega
      · omega
    have oO := Lib.hid ((OwnA.of_own (zs := os ++ [x]) (by rw [show intVals (os ++ [x]) = intVals os ++ [Value.int .i64 x] by simp [intVals]]; exact ho7)) : OwnA 1 w0.heap.size w7.heap.size w7 (.slice (some ⟨g7, 0, none⟩) (q1 + 1) cap) (q1 + 1) (os ++ [x]))
    have oR := Lib.hid (own8 (lo := g8) C8 L0.out (Nat.le_refl _))
    have s7 := heap_lt C8
    obtain ⟨yc0, yf0⟩ := blk (i := 0) K8.r rfl
    obtain ⟨yc1, yf1⟩ := blk (i := 1) K8.r rfl
    have KK := Lib.hid K8
    have Hap : Hid (apart (.slice (some ⟨g8, 0, none⟩) 8 8) (.slice (some ⟨g7, 0, none⟩) (q1 + 1) cap)) := Lib.hid (fun k e e' => by
      have h1 : g8 = k := by simpa [Value.ownBlock] using e
      have h2 : g7 = k := by simpa [Value.ownBlock] using e'
      omega)
    clear ho7 hg7 hat7 ht7 sB O7 K7 C7 C8 K8 q0 q8
    go_wp2_with fail
    rw [HR.out, HO.out, ← hX.out]
    exact flow_out (lo := w0.heap.size) KK.out ⟨oR.out.wide (by omega) s7, oO.out, Hap.out⟩ (by omega) (Nat.le_refl _) _ rfl
  · have hO : flowO rs os op d a b c n = os := by unfold flowO; rw [if_neg (by omega)]
    have HO := Lib.hid hO
    have as1 : ∀ w : World, (Instr.typeAssert t.v 91 97 true).run Try.prog w = .ok (.tuple #[.agg #[.int .i64 0, .int .i64 0, .int .i64 0], .bool false]) w := fun w => by
      rw [as_inp]
      cases t <;> first | rfl | exact absurd rfl (hni _ _ _)
    have as2 : ∀ w : World, (Instr.typeAssert t.v 91 104 true).run Try.prog w = .ok (.tuple #[.agg #[.int .i64 0], .bool false]) w := fun w => by
      rw [as_out]
      cases t <;> first | rfl | exact absurd rfl (hno _)
    have cS := impl_setRegister t
    have s2 : w.heap.size + 2 < g8 := by omega
    clear hO hni hno Hty
    rcases hts : t.sets with _ | _
    · have h10 := Hnot.out hts
      have hR : flowR rs op d a b c n = rs := by unfold flowR; rw [if_neg (by omega)]
      have HR := Lib.hid hR
      rw [hts] at cS
      clear hR h10 Hset Hnot Hreads hok h2 h11 hts
      go_wp2_with fail
      refine (cS w4).mono ?_
      rintro e w5 ⟨rfl, hb5⟩
      have C5 := heap_below hcells hb5
      have K5 := K.out.next hb5
      replace O1 := Lib.hid (O1.out.below hb5)
      have oR := Lib.hid (own8 (lo := g8) C5 L0.out (Nat.le_refl _))
      have s5 := heap_lt C5
      obtain ⟨yc0, yf0⟩ := blk (i := 0) K5.r rfl
      obtain ⟨yc1, yf1⟩ := blk (i := 1) K5.r rfl
      replace K := Lib.hid K5
      clear hb5 hcells C5 K5 cS
      go_wp2_with fail
      rw [HR.out, HO.out]
      exact flow_out (lo := w0.heap.size) K.out ⟨oR.out.wide (by omega) s5, O1.out.any.wide (Nat.le_refl _) (by omega), (O1.out.any.apart_of oR.out (by omega)).symm⟩ (by omega) (Nat.le_refl _) _ rfl
    · obtain ⟨hdst, h10⟩ := Hset.out hts
      have hR : flowR rs op d a b c n = rs.set d.toNat (orAll rs t.reads 0) := by unfold flowR; rw [if_pos ⟨hok, L0.out, h10⟩, if_neg h2, Hreads.out]
      have hrr : inRegs t.reads := by rw [Hreads.out]; exact reads_range hok
      have hd : 0 ≤ d ∧ d < 8 := by
        rcases newV_cases op d a b c n with ⟨hn, -⟩ | ⟨_, _, -⟩
        · exact absurd hok hn
        · unfold okI isReg at hok; omega
      obtain ⟨hd0, hd8⟩ := hd
      rw [hts, hdst] at cS
      have HR := Lib.hid hR
      have Hrr := Lib.hid hrr
      have Hsm := Lib.hid (reads_small t)
      have cR := impl_readRegisters t
      clear hR h10 Hset Hnot Hreads hok h2 h11 hts hdst hrr
      go_wp2_with fail
      refine (cS w4).mono ?_
      rintro e w5 ⟨rfl, hb5⟩
      have C5 := heap_below hcells hb5
      have K5 := Lib.hid (K.out.next hb5)
      have O5 := Lib.hid (O1.out.below hb5)
      obtain ⟨r0, r1, r2, r3, r4, r5, r6, r7, rfl⟩ := eight L0.out
      clear hcells K O1 hb5 cS
      have C5l : w5.heap[g8]? = some (.cells #[.int .i64 r0, .int .i64 r1, .int .i64 r2, .int .i64 r3, .int .i64 r4, .int .i64 r5, .int .i64 r6, .int .i64 r7] 119 (0, 0)) := C5
      have u0 := (blk (i := 0) C5l rfl).1
      have u1 := (blk (i := 1) C5l rfl).1
      have u2 := (blk (i := 2) C5l rfl).1
      have u3 := (blk (i := 3) C5l rfl).1
      have u4 := (blk (i := 4) C5l rfl).1
      have u5 := (blk (i := 5) C5l rfl).1
      have u6 := (blk (i := 6) C5l rfl).1
      have u7 := (blk (i := 7) C5l rfl).1
      go_wp2_with fail
      go_region_law (first
        | (go_simp; go_at_call 84; (with_reducible refine (cR _).mono ?_); intro e w6 h; (obtain ⟨X, mx, cx, rfl, hlx, ox, hb6⟩ := h); (have C6l := heap_below (w := w5.drew) C5l hb6); (have v0 := (blk (i := 0) C6l rfl).1); (have v1 := (blk (i := 1) C6l rfl).1); (have v2 := (blk (i := 2) C6l rfl).1); (have v3 := (blk (i := 3) C6l rfl).1); (have v4 := (blk (i := 4) C6l rfl).1); (have v5 := (blk (i := 5) C6l rfl).1); (have v6 := (blk (i := 6) C6l rfl).1); (have v7 := (blk (i := 7) C6l rfl).1); (have HL := Lib.hid hlx); clear hlx)
        | (go_simp; go_at_call 83; (with_reducible refine (impl_union8 r0 r1 r2 r3 r4 r5 r6 r7 X mx cx t.reads _ ox.ints HL.out (by have := Hsm.out; have := HL.out; omega) Hrr.out).mono ?_); rintro e w7 ⟨rfl, hb7⟩; (have C7 := heap_below C6l hb7); (have q8 := blk (cs := cells8 [r0, r1, r2, r3, r4, r5, r6, r7]) (i := d.toNat) C7 (cells8_at (l := [r0, r1, r2, r3, r4, r5, r6, r7]) (by simp; omega))); (obtain ⟨q8, f8⟩ := q8)))
      all_goals
        have K7 := (((K5.out.drew.next hb6).next hb7).far s2 d.toNat (.int .i64 (orAll [r0, r1, r2, r3, r4, r5, r6, r7] t.reads 0)))
        have O7 := Lib.hid ((((O5.out.drew.below hb6).below hb7).setFar' (g := g8) (i := d.toNat) t2 (.int .i64 (orAll [r0, r1, r2, r3, r4, r5, r6, r7] t.reads 0))))
        have C8 : (w7.setCell ⟨g8, d.toNat, none⟩ (.int .i64 (orAll [r0, r1, r2, r3, r4, r5, r6, r7] t.reads 0))).heap[g8]? = some (.cells (cells8 ([r0, r1, r2, r3, r4, r5, r6, r7].set d.toNat (orAll [r0, r1, r2, r3, r4, r5, r6, r7] t.reads 0))) 119 (0, 0)) := by
          have h := heap_set (cs := cells8 [r0, r1, r2, r3, r4, r5, r6, r7]) (i := d.toNat) C7 (.int .i64 (orAll [r0, r1, r2, r3, r4, r5, r6, r7] t.reads 0))
          rw [cells8_set] at h
          exact h
        generalize w7.setCell ⟨g8, d.toNat, none⟩ (.int .i64 (orAll [r0, r1, r2, r3, r4, r5, r6, r7] t.reads 0)) = w9 at *
        have s9 := heap_lt C8
        obtain ⟨yc0, yf0⟩ := blk (i := 0) K7.r rfl
        obtain ⟨yc1, yf1⟩ := blk (i := 1) K7.r rfl
        have oR := Lib.hid (own8 (lo := g8) C8 (by simp) (Nat.le_refl _))
        have K := Lib.hid K7
        clear K7 C8 C7 q8 f8 C6l hb7 hb6 C5 C5l u0 u1 u2 u3 u4 u5 u6 u7 v0 v1 v2 v3 v4 v5 v6 v7 ox O5 K5
        go_wp2_with fail
        rw [HR.out, HO.out]
        exact flow_out (lo := w0.heap.size) K.out ⟨oR.out.wide (by omega) s9, O7.out.any.wide (Nat.le_refl _) (by omega), (O7.out.any.apart_of oR.out (by omega)).symm⟩ (by omega) (Nat.le_refl _) _ rfl
end Go.Proofs.Ytlaidjibcpfnjaa
