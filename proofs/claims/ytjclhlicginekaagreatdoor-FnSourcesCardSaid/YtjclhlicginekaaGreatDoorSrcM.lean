/- Statements as text, in plain lists of bytes. No condition. -/
import Derived.Test.YtjclhlicginekaaGreatDoorFieldsM
import Derived.Test.YtjclhlicginekaaGreatDoorStM
import Derived.Test.YtjclhlicginekaaGreatDoorDigs
namespace Go.Proofs.YtjclhlicginekaaGreatDoor
open Go Go.RowKit
/-- The word of an Op. -/
def wordL : Nat → List UInt8
  | 1 => [99, 111, 110, 115, 116]
  | 2 => [105, 110, 112, 117, 116]
  | 3 => [97, 100, 100]
  | 4 => [115, 117, 98]
  | 5 => [109, 117, 108]
  | 6 => [97, 110, 100]
  | 7 => [120, 111, 114]
  | 8 => [108, 101, 115, 115]
  | 9 => [101, 113, 117, 97, 108]
  | 10 => [109, 117, 120]
  | 11 => [111, 117, 116]
  | 12 => [108, 111, 111, 112]
  | 13 => [101, 110, 100]
  | _ => []
/-- What stands behind the word: 0 Dst, 1 A, 2 B, 3 C (registers), 4 A (a party), 5 N. -/
def argsN : Nat → List Nat
  | 1 => [0, 5]
  | 2 => [0, 4, 5]
  | 10 => [0, 1, 2, 3]
  | 11 => [1]
  | 12 => [5]
  | 13 => []
  | 0 => []
  | n => if n ≤ 9 then [0, 1, 2] else []
def markL (k : Nat) : List UInt8 := if k = 5 then [] else if k = 4 then [112] else [114]
def fldI (k : Nat) (s : St) : Int := if k = 0 then s.d else if k = 2 then s.b else if k = 3 then s.c else if k = 5 then s.n else s.a
def putI (k : Nat) (s : St) (x : Int) : St := if k = 0 then { s with d := x } else if k = 2 then { s with b := x } else if k = 3 then { s with c := x } else if k = 5 then { s with n := x } else { s with a := x }
def argT (s : St) (k : Nat) : List UInt8 := markL k ++ Lib.itoa (fldI k s)
/-- The fields of a statement's text, and the text. -/
def fmtF (s : St) : List (List UInt8) := wordL s.op.toNat :: (argsN s.op.toNat).map (argT s)
def fmtL (s : St) : List UInt8 := wordL s.op.toNat ++ ((argsN s.op.toNat).map (argT s)).flatMap (fun f => 32 :: f)
theorem word_inj : ∀ i j : Nat, 1 ≤ i → i ≤ 13 → 1 ≤ j → j ≤ 13 → wordL i = wordL j → i = j := by
  have h : ∀ i : Fin 14, ∀ j : Fin 14, 1 ≤ i.val → 1 ≤ j.val → wordL i.val = wordL j.val → i.val = j.val := by decide
  intro i j h1 h2 h3 h4 e
  exact h ⟨i, by omega⟩ ⟨j, by omega⟩ h1 h3 e
theorem word_good : ∀ i : Nat, 1 ≤ i → i ≤ 13 → goodF (wordL i) ∧ (wordL i).length ≤ 5 := by
  have h : ∀ i : Fin 14, 1 ≤ i.val → wordL i.val ≠ [] ∧ (∀ c, c ∈ wordL i.val → (32 ≤ c.toNat ∧ c.toNat ≤ 126) ∧ c.toNat ≠ 32) ∧ (wordL i.val).length ≤ 5 := by decide
  intro i h1 h2
  obtain ⟨a, b, c⟩ := h ⟨i, by omega⟩ h1
  exact ⟨⟨a, fun x hx => b x hx⟩, c⟩
theorem fields_spaced (F : List (List UInt8)) : ∀ (fs : List (List UInt8)) (w : List UInt8), goodF w → (∀ f, f ∈ F → goodF f) → closeF ((F.flatMap fun f => 32 :: f).foldl stepF (fs, w)) = fs ++ w :: F := by
  induction F with
  | nil => intro fs w hw _; simp [closeF, hw.1]
  | cons f r ih =>
    intro fs w hw h
    have hf := h f (List.mem_cons_self ..)
    have e : ((f :: r).flatMap fun f => 32 :: f) = 32 :: (f ++ (r.flatMap fun f => 32 :: f)) := by simp
    have e2 : stepF (fs, w) 32 = (fs ++ [w], []) := by
      unfold stepF closeF
      rw [if_pos (by decide), if_neg hw.1]
    rw [e, List.foldl_cons, e2, List.foldl_append, fold_field f _ _ hf.2, List.nil_append, ih _ _ hf (fun x hx => h x (List.mem_cons_of_mem _ hx)), List.append_assoc]
    rfl
theorem fieldsL_spaced (w : List UInt8) (F : List (List UInt8)) (hw : goodF w) (h : ∀ f, f ∈ F → goodF f) : fieldsL (w ++ F.flatMap fun f => 32 :: f) = w :: F := by
  unfold fieldsL scanF
  rw [List.foldl_append, fold_field w [] [] hw.2, List.nil_append, fields_spaced F [] w hw h]
  rfl
/-- A number of a valid statement is small; its text is digits, at most two. -/
theorem fld_range {s : St} (h : s.ok) (k : Nat) : 0 ≤ fldI k s ∧ fldI k s ≤ 15 := by
  unfold St.ok okI isReg at h
  unfold fldI
  split <;> (try split) <;> (try split) <;> (try split) <;> omega
theorem op_range {s : St} (h : s.ok) : 1 ≤ s.op ∧ s.op ≤ 13 := by unfold St.ok okI at h; omega
theorem opN_range {s : St} (h : s.ok) : 1 ≤ s.op.toNat ∧ s.op.toNat ≤ 13 := by have := op_range h; omega
theorem itoa_small {x : Int} (h0 : 0 ≤ x) (h1 : x ≤ 1000000000) : isNum (Lib.itoa x) ∧ ((dval 0 (Lib.itoa x) : Nat) : Int) = x := isNum_of h0 h1 rfl
theorem itoa_len {x : Int} (h0 : 0 ≤ x) (h1 : x ≤ 15) : (Lib.itoa x).length ≤ 2 := by
  obtain ⟨u, rfl⟩ := Int.eq_ofNat_of_zero_le h0
  rw [itoa_nat, Lib.decDigits_length]
  by_cases hs : u < 10
  · rw [Lib.nDigits_small hs]; omega
  · rw [Lib.nDigits_big hs, Lib.nDigits_small (by omega)]; omega
theorem arg_good {s : St} (h : s.ok) (k : Nat) : goodF (argT s k) ∧ (argT s k).length ≤ 3 := by
  obtain ⟨h0, h1⟩ := fld_range h k
  have hn := isNum_dig (itoa_small h0 (by omega)).1
  have hl := itoa_len h0 h1
  have hm : (∀ c, c ∈ markL k → okB c ∧ c.toNat ≠ 32) ∧ (markL k).length ≤ 1 := by
    unfold markL
    split
    · exact ⟨fun c hc => by simp at hc, by simp⟩
    · split
      · exact ⟨fun c hc => by simp at hc; subst hc; unfold okB; decide, by simp⟩
      · exact ⟨fun c hc => by simp at hc; subst hc; unfold okB; decide, by simp⟩
  unfold argT
  refine ⟨⟨fun e => hn.2.1 (List.append_eq_nil_iff.1 e).2, fun c hc => ?_⟩, by rw [List.length_append]; omega⟩
  rcases List.mem_append.1 hc with hc | hc
  · exact hm.1 c hc
  · have := hn.1 c hc
    unfold okB; omega
theorem args_len (n : Nat) : (argsN n).length ≤ 4 := by
  unfold argsN
  repeat' split
  all_goals simp
theorem fmtF_good {s : St} (h : s.ok) : ∀ f, f ∈ fmtF s → goodF f := by
  intro f hf
  rcases List.mem_cons.1 hf with rfl | hf
  · exact (word_good _ (opN_range h).1 (opN_range h).2).1
  · obtain ⟨k, _, rfl⟩ := List.mem_map.1 hf
    exact (arg_good h k).1
theorem fmt_fields {s : St} (h : s.ok) : fieldsL (fmtL s) = fmtF s :=
  fieldsL_spaced _ _ (fmtF_good h _ (List.mem_cons_self ..)) (fun f hf => fmtF_good h f (List.mem_cons_of_mem _ hf))
theorem flat_len (F : List (List UInt8)) (m : Nat) (h : ∀ f, f ∈ F → f.length ≤ m) : (F.flatMap fun f => 32 :: f).length ≤ (m + 1) * F.length := by
  induction F with
  | nil => simp
  | cons f r ih =>
    have h1 := h f (List.mem_cons_self ..)
    have h2 := ih fun x hx => h x (List.mem_cons_of_mem _ hx)
    rw [List.flatMap_cons, List.length_append, List.length_cons, List.length_cons, Nat.mul_succ]
    omega
theorem fmt_len {s : St} (h : s.ok) : (fmtL s).length ≤ 21 ∧ 1 ≤ (fmtL s).length := by
  have h1 := word_good _ (opN_range h).1 (opN_range h).2
  have h2 := flat_len ((argsN s.op.toNat).map (argT s)) 3 fun f hf => by
    obtain ⟨k, _, rfl⟩ := List.mem_map.1 hf
    exact (arg_good h k).2
  have h3 := args_len s.op.toNat
  rw [List.length_map] at h2
  have h4 : (wordL s.op.toNat).length ≠ 0 := fun e => h1.1.1 (List.eq_nil_of_length_eq_zero e)
  unfold fmtL
  rw [List.length_append]
  omega
theorem fmt_bytes {s : St} (h : s.ok) : ∀ c, c ∈ fmtL s → okB c := by
  intro c hc
  rcases List.mem_append.1 hc with hc | hc
  · exact ((word_good _ (opN_range h).1 (opN_range h).2).1.2 c hc).1
  · obtain ⟨f, hf, hc⟩ := List.mem_flatMap.1 hc
    rcases List.mem_cons.1 hc with rfl | hc
    · unfold okB; decide
    · exact ((fmtF_good h f (List.mem_cons_of_mem _ hf)).2 c hc).1
theorem fmt_split {s : St} (h : s.ok) : splitOK (fmtL s) := by
  refine ⟨by have := (fmt_len h).1; omega, fun j hj => ?_, ?_⟩
  · rw [List.getD_eq_getElem?_getD, List.getElem?_eq_getElem hj, Option.getD_some]
    exact fmt_bytes h _ (List.getElem_mem _)
  · rw [fmt_fields h]
    unfold fmtF
    have := args_len s.op.toNat
    simp; omega
/-- The statement of a line, if there is one. -/
noncomputable def parseL (line : List UInt8) : Option St := by classical exact if h : ∃ s : St, s.ok ∧ fmtL s = line then some h.choose else none
/-- A candidate counts where it is valid and its text is the line. -/
def pick (line : List UInt8) (o : Option St) : Option St := o.filter fun s => decide (s.ok ∧ fmtL s = line)
theorem pick_parse {line : List UInt8} {o : Option St} (h : ∀ s : St, s.ok → fmtL s = line → o = some s) : pick line o = parseL line := by
  classical
  unfold parseL
  by_cases hx : ∃ s : St, s.ok ∧ fmtL s = line
  · rw [dif_pos hx]
    have hc := hx.choose_spec
    rw [h _ hc.1 hc.2]
    unfold pick
    simp only [Option.filter]
    rw [if_pos (decide_eq_true hc)]
  · rw [dif_neg hx]
    cases o with
    | none => rfl
    | some s =>
      unfold pick
      simp only [Option.filter]
      rw [if_neg]
      intro e
      exact hx ⟨s, of_decide_eq_true e⟩
theorem pick_some {line : List UInt8} {s : St} (h1 : s.ok) (h2 : fmtL s = line) : pick line (some s) = some s := by unfold pick; simp [Option.filter, h1, h2]
theorem pick_not {line : List UInt8} {s : St} (h : ¬ (s.ok ∧ fmtL s = line)) : pick line (some s) = none := by unfold pick; simp [Option.filter, h]
/-- A field's number behind its mark, if it is one. -/
def cutL (m f : List UInt8) : Option (List UInt8) := if m.isPrefixOf f then some (f.drop m.length) else none
noncomputable def numA (k : Nat) (f : List UInt8) : Option Int := by
  classical exact if (markL k).isPrefixOf f = true ∧ isNum (f.drop (markL k).length) then some ((dval 0 (f.drop (markL k).length) : Nat) : Int) else none
theorem prefix_self (m r : List UInt8) : m.isPrefixOf (m ++ r) = true := by
  rw [List.isPrefixOf_iff_prefix]; exact List.prefix_append m r
theorem numA_arg {s : St} (h : s.ok) (k : Nat) : numA k (argT s k) = some (fldI k s) := by
  classical
  obtain ⟨h0, h1⟩ := fld_range h k
  obtain ⟨hn, hv⟩ := itoa_small h0 (by omega)
  unfold numA argT
  rw [List.drop_left]
  rw [if_pos ⟨prefix_self _ _, hn⟩, hv]
/-- The program's reading of the fields behind the word. -/
noncomputable def readA : List Nat → List (List UInt8) → St → Option St
  | [], _, s => some s
  | _ :: _, [], _ => none
  | k :: ks, f :: fs, s => match numA k f with
    | some x => readA ks fs (putI k s x)
    | none => none
theorem readA_args {s : St} (h : s.ok) (ks : List Nat) : ∀ t : St, readA ks (ks.map (argT s)) t = some (ks.foldl (fun t k => putI k t (fldI k s)) t) := by
  induction ks with
  | nil => intro t; rfl
  | cons k ks ih =>
    intro t
    rw [List.map_cons, readA, numA_arg h k]
    exact ih _
/-- The number of a word. -/
def opOf (word : List UInt8) : Option Nat := (List.range 14).find? fun i => decide (1 ≤ i ∧ wordL i = word)
theorem opOf_word (i : Nat) (h1 : 1 ≤ i) (h2 : i ≤ 13) : opOf (wordL i) = some i := by
  have h : ∀ i : Fin 14, 1 ≤ i.val → opOf (wordL i.val) = some i.val := by decide
  exact h ⟨i, by omega⟩ h1
theorem opOf_some {word : List UInt8} {i : Nat} (h : opOf word = some i) : 1 ≤ i ∧ i ≤ 13 ∧ wordL i = word := by
  have h1 := List.find?_some h
  have h2 := List.mem_of_find?_eq_some h
  simp at h1 h2
  exact ⟨h1.1, by omega, h1.2⟩
theorem opOf_none {word : List UInt8} (h : opOf word = none) (i : Nat) (h1 : 1 ≤ i) (h2 : i ≤ 13) : wordL i ≠ word := by
  intro e
  rw [← e, opOf_word i h1 h2] at h
  cases h
noncomputable def readI (fs : List (List UInt8)) : Option St := match fs with
  | [] => none
  | f :: r => match opOf f with
    | none => none
    | some op => if (f :: r).length = 1 + (argsN op).length then readA (argsN op) r ⟨op, 0, 0, 0, 0, 0⟩ else none
theorem read_back {s : St} (h : s.ok) : (argsN s.op.toNat).foldl (fun t k => putI k t (fldI k s)) ⟨(s.op.toNat : Int), 0, 0, 0, 0, 0⟩ = s := by
  obtain ⟨op, d, a, b, c, n⟩ := s
  have ho := op_range h
  obtain ⟨u, rfl⟩ : ∃ u : Nat, op = (u : Int) := Int.eq_ofNat_of_zero_le (by simp at ho; omega)
  simp only [St.ok, okI, isReg] at h ho
  simp only [Int.toNat_natCast]
  have hc : u = 1 ∨ u = 2 ∨ u = 3 ∨ u = 4 ∨ u = 5 ∨ u = 6 ∨ u = 7 ∨ u = 8 ∨ u = 9 ∨ u = 10 ∨ u = 11 ∨ u = 12 ∨ u = 13 := by omega
  rcases hc with rfl | rfl | rfl | rfl | rfl | rfl | rfl | rfl | rfl | rfl | rfl | rfl | rfl
  all_goals
    simp [argsN, putI, fldI]
    try omega
theorem read_fmt {s : St} (h : s.ok) : readI (fmtF s) = some s := by
  obtain ⟨h1, h2⟩ := opN_range h
  unfold readI fmtF
  simp only [opOf_word _ h1 h2]
  rw [if_pos (by simp; omega), readA_args h, read_back h]
theorem read_line (line : List UInt8) : pick line (readI (splitF line)) = parseL line := by
  refine pick_parse fun s h e => ?_
  subst e
  rw [(splitF_yes (fmt_split h)).1, fmt_fields h, read_fmt h]
/-- The model's candidate. -/
noncomputable def numM (k : Nat) (f : List UInt8) : Int := (numA k f).getD (-1)
noncomputable def candO (op : Nat) (fs : List (List UInt8)) : St :=
  if op = 1 then ⟨1, numM 0 (fs.getD 1 []), 0, 0, 0, numM 5 (fs.getD 2 [])⟩
  else if op = 2 then ⟨2, numM 0 (fs.getD 1 []), numM 4 (fs.getD 2 []), 0, 0, numM 5 (fs.getD 3 [])⟩
  else if op = 10 then ⟨10, numM 0 (fs.getD 1 []), numM 0 (fs.getD 2 []), numM 0 (fs.getD 3 []), numM 0 (fs.getD 4 []), 0⟩
  else if op = 11 then ⟨11, 0, numM 0 (fs.getD 1 []), 0, 0, 0⟩
  else if op = 12 then ⟨12, 0, 0, 0, 0, numM 5 (fs.getD 1 [])⟩
  else if op = 13 then ⟨13, 0, 0, 0, 0, 0⟩
  else ⟨op, numM 0 (fs.getD 1 []), numM 0 (fs.getD 2 []), numM 0 (fs.getD 3 []), 0, 0⟩
noncomputable def candI (fs : List (List UInt8)) : Option St := if fs.length = 0 ∨ 5 < fs.length then none else (opOf (fs.getD 0 [])).map fun op => candO op fs
theorem numM_mark {j k : Nat} (h : markL j = markL k) (f : List UInt8) : numM j f = numM k f := by unfold numM numA; rw [h]
theorem numM_arg {s : St} (h : s.ok) (j k : Nat) (e : markL j = markL k) : numM j (argT s k) = fldI k s := by
  rw [numM_mark e]
  unfold numM
  rw [numA_arg h k]; rfl
theorem cand_fmt {s : St} (h : s.ok) : candI (fmtF s) = some s := by
  have hr := opN_range h
  have hl := args_len s.op.toNat
  unfold candI
  rw [if_neg (by unfold fmtF; simp; omega)]
  have e0 : (fmtF s).getD 0 [] = wordL s.op.toNat := rfl
  rw [e0, opOf_word _ hr.1 hr.2, Option.map_some]
  congr 1
  have A := fun j k e => numM_arg h j k e
  obtain ⟨op, d, a, b, c, n⟩ := s
  have ho := op_range h
  simp only [St.ok, okI, isReg] at h ho
  have hc : op = 1 ∨ op = 2 ∨ op = 3 ∨ op = 4 ∨ op = 5 ∨ op = 6 ∨ op = 7 ∨ op = 8 ∨ op = 9 ∨ op = 10 ∨ op = 11 ∨ op = 12 ∨ op = 13 := by omega
  clear hr hl e0
  rcases hc with rfl | rfl | rfl | rfl | rfl | rfl | rfl | rfl | rfl | rfl | rfl | rfl | rfl
  all_goals
    simp [candO, fmtF, argsN, A 0 0 rfl, A 0 1 rfl, A 0 2 rfl, A 0 3 rfl, A 4 4 rfl, A 5 5 rfl, fldI]
    try omega
theorem cand_line (line : List UInt8) : pick line (candI (splitF line)) = parseL line := by
  refine pick_parse fun s h e => ?_
  subst e
  rw [(splitF_yes (fmt_split h)).1, fmt_fields h, cand_fmt h]
theorem parse_fmt {s : St} (h : s.ok) : parseL (fmtL s) = some s := by
  rw [← read_line, (splitF_yes (fmt_split h)).1, fmt_fields h, read_fmt h, pick_some h rfl]
theorem parse_ok_of {line : List UInt8} {s : St} (h : parseL line = some s) : s.ok ∧ fmtL s = line := by
  classical
  unfold parseL at h
  split at h
  · rename_i hx
    have := hx.choose_spec
    injection h with h
    rw [← h]; exact this
  · cases h
end Go.Proofs.YtjclhlicginekaaGreatDoor
