/- The program's table of forms: a map of the call's own. -/
import Derived.Test.YtjclhlicginekaaGreatDoorProg
import Derived.Test.YtjclhlicginekaaGreatDoorDraw
import Derived.Test.YtjclhlicginekaaGreatDoorInts
import Derived.Test.YtjclhlicginekaaGreatDoorSrcM
import Derived.Maps.RangeWalk
namespace Go.Proofs.YtjclhlicginekaaGreatDoor
open Go Go.RowKit Go.Maps
/-- 'm[k] = v' of a map's literal. -/
theorem wpList_insert_own {H : Type} {P : Program} (w : World) {ops : Array Oper} {rest : List Oper} {o : Oper} {a : Act} {Q : Exit → Act → World → Prop}
    (hg : o.guard = none) (m x v : Operand) (t : TypeId) (hop : o.op = Op.insert t m x v)
    (k e : TypeId) (K : Keyed P k) (ht : P.underlying t = some (.map k e)) (R : Value → Option (DataW H × List MemPlace)) (b n : Nat) (D : DataW H)
    (hm : a.eval m = .map (some b)) (hown : w.ownsMap P k R b n D) (hn : n < maxLen) (key val : Value) (kl : Lit) (hx : a.eval x = key) (hv : a.eval v = val) (hkey : keyOf P k key = some kl)
    (d : DataW H) (ps : List MemPlace) (hval : R val = some (d, ps))
    (hK : ∀ w', w'.ownsMap P k R b (n + 1) (D.put kl d) → w.grownBy w' (some b) → wpList P ops Q rest (a.put o.dst undef) w') :
    wpList P ops Q (o :: rest) a w := by
  refine wpList_plain hg fun K' hK' => ?_
  obtain ⟨w', hrun, r1, r2⟩ := hown.update K ht hn hkey hval
  unfold Oper.wp
  simp [execOp, hop, hm, hx, hv, hrun, Result.andThen]
  exact hK' _ _ (hK w' r1 r2)
theorem keyS : Keyed Tryz.prog 9 := string_keyed Tryz.underlying9
/-- Where the arguments of an Op lie, when the table was made from block B on. -/
def argV (B op : Nat) : Value :=
  if op = 1 then .slice (some ⟨B + 2, 0, none⟩) 2 2
  else if op = 2 then .slice (some ⟨B + 3, 0, none⟩) 3 3
  else if op = 10 then .slice (some ⟨B + 4, 0, none⟩) 4 4
  else if op = 11 then .slice (some ⟨B + 5, 0, none⟩) 1 1
  else if op = 12 then .slice (some ⟨B + 6, 0, none⟩) 1 1
  else if 3 ≤ op ∧ op ≤ 9 then .slice (some ⟨B, 0, none⟩) 3 3
  else .slice none 0 0
def argP (B op : Nat) : Option Addr :=
  if op = 1 then some ⟨B + 2, 0, none⟩
  else if op = 2 then some ⟨B + 3, 0, none⟩
  else if op = 10 then some ⟨B + 4, 0, none⟩
  else if op = 11 then some ⟨B + 5, 0, none⟩
  else if op = 12 then some ⟨B + 6, 0, none⟩
  else if 3 ≤ op ∧ op ≤ 9 then some ⟨B, 0, none⟩
  else none
theorem argV_is (B op : Nat) (h : op ≤ 13) : argV B op = .slice (argP B op) (argsN op).length (argsN op).length := by
  have h2 : op = 0 ∨ op = 1 ∨ op = 2 ∨ op = 3 ∨ op = 4 ∨ op = 5 ∨ op = 6 ∨ op = 7 ∨ op = 8 ∨ op = 9 ∨ op = 10 ∨ op = 11 ∨ op = 12 ∨ op = 13 := by omega
  rcases h2 with rfl | rfl | rfl | rfl | rfl | rfl | rfl | rfl | rfl | rfl | rfl | rfl | rfl | rfl <;> rfl
def formV (B op : Nat) : Value := .agg #[.int .i64 (op : Int), argV B op]
/-- How a form reads: its Op. -/
noncomputable def formR (B : Nat) (v : Value) : Option (DataW Unit × List MemPlace) := by
  classical exact if h : ∃ op, op ≤ 13 ∧ v = formV B op then some (.lit (.int .i64 ((h.choose : Nat) : Int)), []) else none
theorem formV_inj {B i j : Nat} (h : formV B i = formV B j) : i = j := by
  unfold formV at h
  injection h with h
  have := congrArg (fun a : Array Value => a[0]?) h
  simp at this
  omega
theorem formR_mk (B op : Nat) (h : op ≤ 13) : formR B (formV B op) = some (.lit (.int .i64 (op : Int)), []) := by
  classical
  have hx : ∃ o, o ≤ 13 ∧ formV B op = formV B o := ⟨op, h, rfl⟩
  unfold formR
  rw [dif_pos hx, ← formV_inj hx.choose_spec.2]
theorem formR_inv {B : Nat} {v : Value} {z : DataW Unit × List MemPlace} (h : formR B v = some z) : ∃ op, op ≤ 13 ∧ v = formV B op ∧ z = (.lit (.int .i64 (op : Int)), []) := by
  classical
  unfold formR at h
  split at h
  · rename_i hx
    injection h with h
    exact ⟨hx.choose, hx.choose_spec.1, hx.choose_spec.2, h.symm⟩
  · cases h
theorem formR_num {B op : Nat} {v : Value} {ps : List MemPlace} (h : formR B v = some (.lit (.int .i64 (op : Int)), ps)) : v = formV B op := by
  obtain ⟨o, _, rfl, e⟩ := formR_inv h
  simp only [Prod.mk.injEq, DataW.lit.injEq, Lit.int.injEq] at e
  have : op = o := by omega
  rw [this]
/-- The table as it reads, the first n words of it. -/
def tblD : Nat → DataW Unit
  | 0 => .map []
  | n + 1 => (tblD n).put (.string (wordL (n + 1))) (.lit (.int .i64 ((n + 1 : Nat) : Int)))
theorem tbl_map (n : Nat) : IsMap (tblD n) := by
  induction n with
  | zero => exact isMap_empty
  | succ n ih => exact ih.put _ _
theorem tbl_other (n : Nat) (l : List UInt8) (h : ∀ i, 1 ≤ i → i ≤ n → wordL i ≠ l) : Maps.has (tblD n) (.string l) = false ∧ ∀ zd, (tblD n).atKey (.string l) zd = zd := by
  induction n with
  | zero => exact ⟨rfl, fun zd => rfl⟩
  | succ n ih =>
    have hne : Lit.string l ≠ Lit.string (wordL (n + 1)) := fun e => by injection e with e; exact h (n + 1) (by omega) (by omega) e.symm
    obtain ⟨i1, i2⟩ := ih fun i h1 h2 => h i h1 (by omega)
    exact ⟨(has_put_other hne _).trans i1, fun zd => (atKey_put_other hne _ zd).trans (i2 zd)⟩
theorem tbl_word (n : Nat) (hn : n ≤ 13) (i : Nat) (h1 : 1 ≤ i) (h2 : i ≤ n) : Maps.has (tblD n) (.string (wordL i)) = true ∧ ∀ zd, (tblD n).atKey (.string (wordL i)) zd = .lit (.int .i64 (i : Int)) := by
  induction n with
  | zero => omega
  | succ n ih =>
    by_cases he : i = n + 1
    · subst he
      exact ⟨has_put_same (tbl_map n) (show WideAt.IsKeyLit (.string _) from trivial) _, fun zd => atKey_put_same (tbl_map n) (show WideAt.IsKeyLit (.string _) from trivial) _ zd⟩
    · have hne : Lit.string (wordL i) ≠ Lit.string (wordL (n + 1)) := fun e => by injection e with e; exact he (word_inj i (n + 1) h1 (by omega) (by omega) (by omega) e)
      obtain ⟨i1, i2⟩ := ih (by omega) (by omega)
      exact ⟨(has_put_other hne _).trans i1, fun zd => (atKey_put_other hne _ zd).trans (i2 zd)⟩
theorem tbl_key {kl : Lit} (h : Maps.has (tblD 13) kl = true) {l : List UInt8} (hl : kl = .string l) : ∃ i, 1 ≤ i ∧ i ≤ 13 ∧ l = wordL i := by
  subst hl
  cases ho : opOf l with
  | none =>
    rw [(tbl_other 13 l fun i h1 h2 => opOf_none ho i h1 h2).1] at h
    cases h
  | some i =>
    obtain ⟨h1, h2, h3⟩ := opOf_some ho
    exact ⟨i, h1, h2, h3.symm⟩
/-- The numbers of an Op's arguments. -/
def argZ (op : Nat) : List Int := (argsN op).map Int.ofNat
/-- The table of forms lies in the world: the map in block B + 1, the arguments from block B on. -/
structure Forms (B : Nat) (w : World) : Prop where
  map : w.ownsMap Tryz.prog 9 (formR B) (B + 1) 13 (tblD 13)
  args : ∀ op, op ≤ 13 → IntsB (B + 7) w (argP B op) (argZ op)
  top : B + 7 ≤ w.heap.size
theorem Forms.below {B : Nat} {w w' : World} (h : Forms B w) (hb : Below w.heap.size w w') : Forms B w' :=
  ⟨h.map.kept (row := none) ⟨hb.os, hb.tape, hb.output, hb.size, fun k hk _ => hb.block k hk⟩ (by simp), fun op ho => (h.args op ho).below (hb.mono h.top), Nat.le_trans h.top hb.size⟩
theorem argZ_at (op j : Nat) (h : j < (argsN op).length) : (argZ op).getD j 0 = (((argsN op).getD j 0 : Nat) : Int) := by
  unfold argZ
  rw [List.getD_eq_getElem?_getD, List.getD_eq_getElem?_getD, List.getElem?_map, List.getElem?_eq_getElem h]
  rfl
theorem Forms.at_ {B : Nat} {w : World} (h : Forms B w) {op j : Nat} (ho : op ≤ 13) (hj : j < (argsN op).length) :
    ∃ b o, argP B op = some ⟨b, o, none⟩ ∧ b < B + 7 ∧ w.cell? ⟨b, o + j, none⟩ = some (.int .i64 (((argsN op).getD j 0 : Nat) : Int)) := by
  obtain ⟨b, o, h1, h2, h3⟩ := (h.args op ho).at_ (j := j) (by unfold argZ; rw [List.length_map]; exact hj)
  rw [argZ_at op j hj] at h3
  exact ⟨b, o, h1, h2, h3⟩
theorem zeroForm (w : World) : (zeroValue 77).run Tryz.prog w = .ok (.agg #[.int .i64 0, .slice none 0 0]) w := by kernel_rfl
/-- 'forms[word]' at a word of the language. -/
theorem Forms.look {B : Nat} {w : World} (h : Forms B w) {s : ByteArray} {op : Nat} (h1 : 1 ≤ op) (h2 : op ≤ 13) (hs : s.data.toList = wordL op) :
    (Instr.lookup 45 (.map (some (B + 1))) (.string s) false).run Tryz.prog w = .ok (formV B op) w ∧
    (Instr.lookup 45 (.map (some (B + 1))) (.string s) true).run Tryz.prog w = .ok (.tuple #[formV B op, .bool true]) w := by
  have hk : keyOf Tryz.prog 9 (.string s) = some (.string (wordL op)) := by
    have h5 := (word_good op h1 h2).2
    have h6 : s.data.toList.length = s.size := by simp
    rw [← hs] at h5 ⊢
    exact Go.WideMaps.keyOf_string_mk Tryz.underlying9 (by unfold maxLen; omega)
  have hz : formR B (.agg #[.int .i64 0, .slice none 0 0]) = some (.lit (.int .i64 0), []) := formR_mk B 0 (by omega)
  obtain ⟨t1, t2⟩ := tbl_word 13 (by omega) op h1 h2
  obtain ⟨v, ps, hr, hv⟩ := h.map.lookup keyS Tryz.underlying45 (zeroForm w) hz hk
  obtain ⟨v', ps', hr', hv'⟩ := h.map.look_ok keyS Tryz.underlying45 (zeroForm w) hz hk
  rw [t2] at hv hv'
  rw [t1] at hr'
  rw [formR_num hv] at hr
  rw [formR_num hv'] at hr'
  exact ⟨hr, hr'⟩
theorem Forms.look_no {B : Nat} {w : World} (h : Forms B w) {s : ByteArray} (hm : s.size ≤ maxLen) (hs : opOf s.data.toList = none) :
    (Instr.lookup 45 (.map (some (B + 1))) (.string s) true).run Tryz.prog w = .ok (.tuple #[.agg #[.int .i64 0, .slice none 0 0], .bool false]) w := by
  have hk : keyOf Tryz.prog 9 (.string s) = some (.string s.data.toList) := Go.WideMaps.keyOf_string_mk Tryz.underlying9 hm
  have hz : formR B (.agg #[.int .i64 0, .slice none 0 0]) = some (.lit (.int .i64 0), []) := formR_mk B 0 (by omega)
  obtain ⟨t1, t2⟩ := tbl_other 13 s.data.toList fun i h1 h2 => opOf_none hs i h1 h2
  obtain ⟨v', ps', hr', hv'⟩ := h.map.look_ok keyS Tryz.underlying45 (zeroForm w) hz hk
  rw [t2] at hv'
  rw [t1] at hr'
  have e := formR_num (op := 0) hv'
  rw [e] at hr'
  exact hr'
end Go.Proofs.YtjclhlicginekaaGreatDoor
