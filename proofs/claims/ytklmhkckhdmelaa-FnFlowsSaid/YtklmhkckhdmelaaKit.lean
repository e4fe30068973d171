/- Words and small facts that this seat's proofs share. No condition. -/
import Derived.WalkKit
import Derived.ProofKit
import Derived.WalkLawsBesides
import Derived.Below
import Derived.Laws.OwnMore
import Derived.Deep.Draws
import Derived.Deep.AppendLies
import Derived.Maps.AppendAt
import Derived.Laws.Rows
import Derived.Lib.Hide
import Derived.OwnWalk
import Derived.Deep.RegionHeld3
import Derived.Deep.DeepCutAuto
import Derived.Deep.DrawnRows
import Derived.Laws.IdiomStrings
import Derived.Deep.RegionLaw
import Derived.IntWalk
import Derived.Outline
import Derived.Lib.BufferRead
import Derived.Laws.CopyOwn
import Derived.BigQuiet
import Derived.Deep.QuietTactic
import Derived.Laws.BitsAllLaws
import Derived.Laws.BitsLemmas
namespace Go.Proofs.Ytklmhkckhdmelaa
open Go Go.RowKit

theorem ret_int {k : IntKind} {a b : Int} (h : a = b) : Ending.returned (.int k a) = .returned (.int k b) := by rw [h]
theorem ret_tup {a b : Value} (h : a = b) : Ending.returned a = .returned b := by rw [h]
theorem ret_bool {a b : Bool} (h : a = b) : Ending.returned (.bool a) = .returned (.bool b) := by rw [h]

/-- `and` with a number that is not negative lies between 0 and that number. -/
theorem and_range (x : Int) (m : Nat) (hm : m < 9223372036854775808) : 0 ≤ bits .and .i64 x (m : Int) ∧ bits .and .i64 x (m : Int) ≤ (m : Int) := by
  show 0 ≤ IntKind.i64.wrap ((BitVec.ofInt 64 x &&& BitVec.ofInt 64 (m : Int)).toNat : Int) ∧ IntKind.i64.wrap ((BitVec.ofInt 64 x &&& BitVec.ofInt 64 (m : Int)).toNat : Int) ≤ (m : Int)
  have hm' : (BitVec.ofInt 64 (m : Int)).toNat = m := by
    rw [BitVec.ofInt_natCast, BitVec.toNat_ofNat]
    exact Nat.mod_eq_of_lt (by omega)
  rw [BitVec.toNat_and, hm']
  have h1 : (BitVec.ofInt 64 x).toNat &&& m ≤ m := Nat.and_le_right
  rw [IntKind.wrap_i64]
  omega

/-- The cells of a slice of one-cell elements, in a block below B: each is a byte. -/
def Bytes (B : Nat) (w : World) (A : Option Addr) (n : Nat) : Prop :=
  0 < n → ∃ b o, A = some ⟨b, o, none⟩ ∧ b < B ∧ ∀ k, k < n → ∃ z : Int, 0 ≤ z ∧ z ≤ 255 ∧ w.cell? ⟨b, o + k, none⟩ = some (.int .u8 z)

theorem Bytes.none_ (B : Nat) (w : World) (A : Option Addr) : Bytes B w A 0 := fun h => absurd h (by omega)
theorem Bytes.of_row {w : World} {x : Addr} {len cap : Nat} {zs : List Int} (hl : len ≤ cap) (hz : zs.length = cap)
    (hcell : ∀ i, i < zs.length → w.cell? (x.add i) = some (.int .u8 (zs.getD i 0))) (hwz : ∀ n ∈ zs, (Lit.int .u8 n).wf = true) : Bytes w.heap.size w (some x) len := by
  intro hn
  obtain ⟨b, o, spot⟩ := x
  have h0 := hcell 0 (by omega)
  have hs : spot = none := by simpa [Addr.add] using World.cell?_spot h0
  subst hs
  refine ⟨b, o, rfl, ?_, fun k hk => ?_⟩
  · have := World.block_lt_of_cell? w _ h0
    simpa [Addr.add] using this
  · have hc := hcell k (by omega)
    have hm : zs.getD k 0 ∈ zs := by
      rw [List.getD_eq_getElem?_getD, List.getElem?_eq_getElem (by omega), Option.getD_some]
      exact List.getElem_mem _
    have hw := hwz _ hm
    have hr : 0 ≤ zs.getD k 0 ∧ zs.getD k 0 ≤ 255 := by simpa [Lit.wf, IntKind.min, IntKind.max, IntKind.signed, IntKind.bits] using hw
    refine ⟨zs.getD k 0, hr.1, hr.2, ?_⟩
    rw [← hc]
    rcases Nat.eq_zero_or_pos k with h | h
    · subst h; simp [Addr.add]
    · simp [Addr.add, Nat.ne_of_gt h]

theorem Bytes.keep {B n : Nat} {w w' : World} {A : Option Addr} (h : Bytes B w A n) (hk : ∀ k, k < B → w'.heap[k]? = w.heap[k]?) : Bytes B w' A n := by
  intro hn
  obtain ⟨b, o, hA, hb, hc⟩ := h hn
  refine ⟨b, o, hA, hb, fun k hk' => ?_⟩
  obtain ⟨z, h0, h1, h2⟩ := hc k hk'
  exact ⟨z, h0, h1, (World.cell?_of_block (hk b hb)).trans h2⟩

/-- Block g is a cursor over a draw: made at or above block B, its bytes below B. -/
def Cur (T : TypeId) (B : Nat) (w : World) (g : Nat) : Prop :=
  B ≤ g ∧ ∃ (A : Option Addr) (n c i : Nat) (h : Int), w.heap[g]? = some (.cells #[.slice A n c, .int .i64 (i : Int), .int .i64 h] T (0, 0)) ∧ i ≤ n ∧ n ≤ 2000000 ∧ Bytes B w A n

theorem Cur.lt {T : TypeId} {B g : Nat} {w : World} (h : Cur T B w g) : g < w.heap.size := by
  obtain ⟨_, A, n, c, i, hh, hg, _⟩ := h
  exact (Array.getElem?_eq_some_iff.1 hg).1

theorem Cur.keep {T : TypeId} {B g : Nat} {w w' : World} (h : Cur T B w g) (hk : ∀ k, k < B → w'.heap[k]? = w.heap[k]?) (hg' : w'.heap[g]? = w.heap[g]?) : Cur T B w' g := by
  obtain ⟨hB, A, n, c, i, hh, hg, hi, hn, hb⟩ := h
  exact ⟨hB, A, n, c, i, hh, hg'.trans hg, hi, hn, hb.keep hk⟩
theorem Cur.drewN {T : TypeId} {B g : Nat} {w : World} (h : Cur T B w g) (k : Nat) : Cur T B (w.drewN k) g := h
theorem Cur.drew {T : TypeId} {B g : Nat} {w : World} (h : Cur T B w g) : Cur T B w.drew g := h
theorem Cur.below {T : TypeId} {B B' g : Nat} {w w' : World} (h : Cur T B w g) (hb : Below B' w w') (hg : g < B') : Cur T B w' g :=
  h.keep (fun k hk => hb.block k (by have := h.1; omega)) (hb.block g hg)
theorem Cur.alloc {T : TypeId} {B g : Nat} {w : World} (h : Cur T B w g) (o : Obj) : Cur T B (w.alloc o) g :=
  h.keep (fun k hk => Below.heap_alloc w o k (by have := h.1; have := h.lt; omega)) (Below.heap_alloc w o g h.lt)
theorem Cur.grown {T : TypeId} {B g : Nat} {w w' : World} {row : Option Nat} (h : Cur T B w g) (hb : w.grownBy w' row) (hr : ∀ k, row = some k → g < k) : Cur T B w' g := by
  have hl := h.lt
  have hB := h.1
  exact h.keep (fun k hk => hb.block k (by omega) (fun e => by have := hr k e.symm; omega)) (hb.block g hl (fun e => by have := hr g e.symm; omega))

theorem grownBy_set (w : World) (g i : Nat) (v : Value) : w.grownBy (w.setCell ⟨g, i, none⟩ v) (some g) :=
  ⟨rfl, rfl, rfl, by simp [World.setCell], fun k _ hk => Below.heap_setCell w _ v k (fun e => hk (by rw [e]))⟩
theorem grownBy_drewN {a w : World} {row : Option Nat} (h : a.grownBy w row) (n : Nat) : a.grownBy (w.drewN n) row := ⟨h.os, h.tape, h.output, h.size, h.block⟩
theorem grownBy_drew {a w : World} {row : Option Nat} (h : a.grownBy w row) : a.grownBy w.drew row := ⟨h.os, h.tape, h.output, h.size, h.block⟩
theorem grownBy_below {a w : World} {row : Option Nat} (h : Below a.heap.size a w) : a.grownBy w row := ⟨h.os, h.tape, h.output, h.size, fun k hk _ => h.block k hk⟩
theorem heap_set {w : World} {g i : Nat} {cs : Array Value} {T : TypeId} (h : w.heap[g]? = some (.cells cs T (0, 0))) (v : Value) :
    (w.setCell ⟨g, i, none⟩ v).heap[g]? = some (.cells (cs.setIfInBounds i v) T (0, 0)) := by
  simp [World.setCell, Array.getElem?_modify, h]
/-- The cursor behind a step: its number turned, its place perhaps. -/
theorem Cur.of_ {T : TypeId} {B g n c i : Nat} {A : Option Addr} {h : Int} {w w' : World} (hB : B ≤ g) (hb : Bytes B w A n) (hi : i ≤ n) (hn : n ≤ 2000000)
    (hg : w'.heap[g]? = some (.cells #[.slice A n c, .int .i64 (i : Int), .int .i64 h] T (0, 0))) (hk : w.grownBy w' (some g)) (hlt : g < w.heap.size) : Cur T B w' g :=
  ⟨hB, A, n, c, i, h, hg, hi, hn, hb.keep fun k hk' => hk.block k (by omega) (fun e => by injection e with e; omega)⟩

/-- A new cursor. -/
def NewCur (T : TypeId) (w : World) (e : Ending) (w' : World) : Prop :=
  ∃ g, e = .returned (.pointer (some ⟨g, 0, none⟩)) ∧ Cur T w.heap.size w' g ∧ Below w.heap.size w w'

/-- A number that was drawn; of what there was, only the cursor's block has turned. -/
def Drawn (T : TypeId) (B g : Nat) (P : Int → Prop) (w : World) (e : Ending) (w' : World) : Prop :=
  ∃ x : Int, e = .returned (.int .i64 x) ∧ P x ∧ Cur T B w' g ∧ w.grownBy w' (some g)
def DrawnBool (T : TypeId) (B g : Nat) (w : World) (e : Ending) (w' : World) : Prop :=
  ∃ x : Bool, e = .returned (.bool x) ∧ Cur T B w' g ∧ w.grownBy w' (some g)
/-- A text that was drawn. -/
def DrawnText (T : TypeId) (B g : Nat) (P : ByteArray → Prop) (w : World) (e : Ending) (w' : World) : Prop :=
  ∃ s : ByteArray, e = .returned (.string s) ∧ P s ∧ Cur T B w' g ∧ w.grownBy w' (some g)
/-- What the program's table says of a slice type t over the element type e. -/
structure Elem (P : Program) (t e : TypeId) (size bytes : Nat) : Prop where
  ht : P.underlying t = some (.slice e)
  info : ∃ i z, P.info? e = some i ∧ i.zero = some z ∧ i.size = size ∧ i.bytes = bytes ∧ z.cells.size = size
  pos : 0 < size

section
variable {P : Program} {t e e' : TypeId} {size bytes : Nat} {w : World}
/-- append of elements that lie in a block of their own, at a step of a drawn region. -/
theorem app_step (L : Elem P t e size bytes) {ops : Array Oper} {o : Oper} {a : Act} {K : Act → World → Prop} {Q : Exit → Act → World → Prop} {E : Prop} (hgd : o.guard = none) (s x : Operand)
    (ho : o.op = .call { callee := .builtin .append, args := #[s, x], argTypes := #[t, t] }) (base : Nat) (v : Value) (n : Nat) (xs : List Value) (hs : a.eval s = v) (hown : w.ownsRow base e size v n xs)
    (g0 m c : Nat) (cs : Array Value) (fr : Nat × Nat) (hx : a.eval x = .slice (some ⟨g0, 0, none⟩) m c) (hblk : w.heap[g0]? = some (.cells cs e' fr)) (hl : cs.size = m * size) (h1 : ∀ u ∈ cs.toList, u.oneCell' = true)
    (hm : 0 < m) (h63 : n + m ≤ maxLen) (hbytes : (n + m) * bytes ≤ 140737488355328) (hbase : base ≤ w.heap.size) (H : Nat) (hH : w.heap.size = H)
    (h : ∀ g cap w', w'.ownsRow base e size (.slice (some ⟨g, 0, none⟩) (n + m) cap) (n + m) (xs ++ cs.toList) → w.grownBy w' v.ownBlock → (v.ownBlock = some g ∨ g = H) → g < w'.heap.size → K (a.put o.dst (.slice (some ⟨g, 0, none⟩) (n + m) cap)) w') :
    if Region.wanted o (yielded ops a.tmps) = true then Oper.wp P o a w K Q else E := by
  obtain ⟨i, z, hi, hz, hz1, hz2, hz3⟩ := L.info
  exact step_append_lies w hgd s x t ho base e i z size bytes L.ht hi hz hz1 hz2 hz3 L.pos v n xs hs hown ⟨g0, 0, none⟩ m c cs.toList hx (by simpa using hl) (World.news_of_block hblk) h1 hm h63 hbytes hbase H hH h
/-- The same in a plain region. -/
theorem app_list (L : Elem P t e size bytes) {ops : Array Oper} {rest : List Oper} {o : Oper} {a : Act} {Q : Exit → Act → World → Prop} (hgd : o.guard = none) (s x : Operand)
    (ho : o.op = .call { callee := .builtin .append, args := #[s, x], argTypes := #[t, t] }) (base : Nat) (v : Value) (n : Nat) (xs : List Value) (hs : a.eval s = v) (hown : w.ownsRow base e size v n xs)
    (g0 m c : Nat) (cs : Array Value) (fr : Nat × Nat) (hx : a.eval x = .slice (some ⟨g0, 0, none⟩) m c) (hblk : w.heap[g0]? = some (.cells cs e' fr)) (hl : cs.size = m * size) (h1 : ∀ u ∈ cs.toList, u.oneCell' = true)
    (hm : 0 < m) (h63 : n + m ≤ maxLen) (hbytes : (n + m) * bytes ≤ 140737488355328) (hbase : base ≤ w.heap.size) (H : Nat) (hH : w.heap.size = H)
    (h : ∀ g cap w', w'.ownsRow base e size (.slice (some ⟨g, 0, none⟩) (n + m) cap) (n + m) (xs ++ cs.toList) → w.grownBy w' v.ownBlock → (v.ownBlock = some g ∨ g = H) → g < w'.heap.size → wpList P ops Q rest (a.put o.dst (.slice (some ⟨g, 0, none⟩) (n + m) cap)) w') : wpList P ops Q (o :: rest) a w := by
  obtain ⟨i, z, hi, hz, hz1, hz2, hz3⟩ := L.info
  exact wpList_append_lies w hgd s x t ho base e i z size bytes L.ht hi hz hz1 hz2 hz3 L.pos v n xs hs hown ⟨g0, 0, none⟩ m c cs.toList hx (by simpa using hl) (World.news_of_block hblk) h1 hm h63 hbytes hbase H hH h
end
/-- make of an empty slice with room. -/
theorem make_list {P : Program} {t e : TypeId} {size bytes : Nat} {w : World} (L : Elem P t e size bytes) {ops : Array Oper} {rest : List Oper} {o : Oper} {a : Act} {Q : Exit → Act → World → Prop} (hgd : o.guard = none) (l c : Operand)
    (ho : o.op = Op.makeSlice t l c) (base : Nat) (kl kc : IntKind) (C : Int) (n : Nat) (hl : a.eval l = .int kl 0) (hc : a.eval c = .int kc C) (hC : C = (n : Int)) (b2 : bytes * n ≤ 281474976710656) (b3 : n ≤ maxLen) (b4 : base ≤ w.heap.size)
    (h : ∀ w', w'.ownsRow base e size (.slice (some ⟨w.heap.size, 0, none⟩) 0 n) 0 [] → w.grownBy w' none → wpList P ops Q rest (a.put o.dst (.slice (some ⟨w.heap.size, 0, none⟩) 0 n)) w') :
    wpList P ops Q (o :: rest) a w := by
  obtain ⟨i, z, hi, hz, hz1, hz2, hz3⟩ := L.info
  exact wpList_make_own w hgd l c t ho base e i z size L.ht hi hz hz1 kl kc C n hl hc hC (by rw [hz2]; exact b2) b3 b4 h
theorem below_own {B base : Nat} {w0 w w' : World} {e : TypeId} {size n : Nat} {v : Value} {xs : List Value} (h : Below B w0 w) (hown : w.ownsRow base e size v n xs) (hg : w.grownBy w' v.ownBlock) (hB : B ≤ base) (hw : B ≤ w.heap.size) : Below B w0 w' :=
  h.grown hg hw fun k hk => by have := (hown.lt k hk).1; omega
theorem oneCell_u8 (l : List Int) : ∀ u ∈ l.map (Value.int .u8), u.oneCell' = true := by
  intro u hu
  obtain ⟨x, _, rfl⟩ := List.mem_map.1 hu
  rfl
theorem oneCell_i64 (l : List Int) : ∀ u ∈ l.map (Value.int .i64), u.oneCell' = true := by
  intro u hu
  obtain ⟨x, _, rfl⟩ := List.mem_map.1 hu
  rfl
/-- Bytes as cells. -/
def byteVals (l : List UInt8) : List Value := l.map fun c => Value.int .u8 (c.toNat : Int)
theorem byteVals_append (a b : List UInt8) : byteVals (a ++ b) = byteVals a ++ byteVals b := by simp [byteVals]
theorem byteVals_length (a : List UInt8) : (byteVals a).length = a.length := by simp [byteVals]

theorem take_all (s : ByteArray) : s.data.toList.take s.size = s.data.toList := List.take_of_length_le (by simp)
theorem getD_at (s : ByteArray) (i : Nat) (h : i < s.size) : s.data.toList.getD i 0 = s[i] := by
  rw [List.getD_eq_getElem?_getD, List.getElem?_eq_getElem (by simpa using h)]; rfl
def byteAt (s : ByteArray) (i : Nat) : UInt8 := s.data.toList.getD i 0
theorem byteAt_eq (s : ByteArray) (i : Nat) (h : i < s.size) : s[i] = byteAt s i := (getD_at s i h).symm
theorem ownsRow_slice {w : World} {base size n : Nat} {e : TypeId} {v : Value} {xs : List Value} (h : w.ownsRow base e size v n xs) : ∃ (A : Option Addr) (m c : Nat), v = .slice A m c ∧ n = m := by
  rcases h.2 with ⟨rfl, h0⟩ | ⟨g, cap, cur, rfl, _⟩
  · exact ⟨none, 0, 0, rfl, h0⟩
  · exact ⟨_, _, cap, rfl, rfl⟩
theorem own_addr {w : World} {base size n c : Nat} {e : TypeId} {A : Option Addr} {xs : List Value} (h : w.ownsRow base e size (.slice A n c) n xs) (hn : 0 < n) : ∃ g, A = some ⟨g, 0, none⟩ ∧ base ≤ g ∧ g < w.heap.size := by
  rcases h.2 with ⟨he, h1⟩ | ⟨g, cap, cur, he, hb, hg, _⟩
  · omega
  · injection he with he1 he2 he3
    exact ⟨g, he1, hb, (Array.getElem?_eq_some_iff.1 hg).1⟩
theorem own_below {w w' : World} {base size n : Nat} {e : TypeId} {v : Value} {xs : List Value} (h : w.ownsRow base e size v n xs) (hb : Below w.heap.size w w') : w'.ownsRow base e size v n xs :=
  h.kept (row := none) ⟨hb.os, hb.tape, hb.output, hb.size, fun k hk _ => hb.block k hk⟩ (by cases v.ownBlock <;> simp)
theorem own_mono {w : World} {base base' size n : Nat} {e : TypeId} {v : Value} {xs : List Value} (h : w.ownsRow base e size v n xs) (hb : base' ≤ base) : w.ownsRow base' e size v n xs :=
  ⟨h.1, h.2.imp id fun ⟨g, cap, cur, he, hg, r⟩ => ⟨g, cap, cur, he, Nat.le_trans hb hg, r⟩⟩
/-- string(b), b a slice of bytes of the call's own. -/
theorem conv_bytes {P : Program} {w : World} {src dst e e' : TypeId} {base n : Nat} {v : Value} {l : List UInt8} (hs : P.underlying src = some (.slice e)) (he : P.underlying e = some (.int .u8)) (hd : P.underlying dst = some .string)
    (hown : w.ownsRow base e' 1 v n (byteVals l)) : (convert src dst v).run P w = .ok (.string ⟨l.toArray⟩) w := by
  have hlen : l.length = n := by have := hown.1; simpa [byteVals_length] using this
  rcases hown.2 with ⟨rfl, h0⟩ | ⟨g, cap, cur, rfl, _, hg, hc1, hc2, hc3, hc4⟩
  · have hl : l = [] := List.eq_nil_of_length_eq_zero (by omega)
    subst hl
    exact Lib.run_convert_nil_bytes w src dst e 0 hs he hd
  · subst hlen
    refine run_convert_bytes_back w src dst e ⟨g, 0, none⟩ cap l hs he hd fun j hj => ?_
    exact hown.cells (g := g) rfl j _ (by simp [byteVals, hj])

/-- Two strings that differ, in the walk's words. -/
theorem str_ne {a b : ByteArray} (h : a.data.toList ≠ b.data.toList) : (a.toList == b.toList) = false ∧ ¬ a.toList = b.toList := by
  rw [Lib.toList_data, Lib.toList_data]
  exact ⟨beq_eq_false_iff_ne.2 h, h⟩
/-- A string that is not empty, in the walk's words. -/
theorem str_some {a : ByteArray} (h : a.data.toList ≠ []) : a.toList.isEmpty = false ∧ ¬ a.toList = [] := by
  rw [Lib.toList_data]
  exact ⟨by rw [Bool.eq_false_iff]; intro e; exact h (List.isEmpty_iff.1 e), h⟩
def inI64 (x : Int) : Prop := -9223372036854775808 ≤ x ∧ x ≤ 9223372036854775807
/-- The cells of a new block of integers. -/
theorem cells_new (w : World) (l : List Int) (T : TypeId) (P : Int → Prop) (hP : ∀ x, x ∈ l → P x) :
    ∀ k, k < l.length → ∃ x : Int, P x ∧ (w.alloc (.cells (l.map (Value.int .i64)).toArray T)).cell? ⟨w.heap.size, 0 + k, none⟩ = some (.int .i64 x) := by
  intro k hk
  refine ⟨l[k], hP _ (List.getElem_mem _), ?_⟩
  have h := heap_alloc_new w (.cells (l.map (Value.int .i64)).toArray T)
  have h2 := cell_of_row (w.alloc (.cells (l.map (Value.int .i64)).toArray T)) w.heap.size (0 + k) _ T (0, 0) h
  rw [h2]
  simp [hk]
theorem inI64_of {n : Int} (h : (Lit.int .i64 n).wf = true) : inI64 n := by
  have : -9223372036854775808 ≤ n ∧ n ≤ 9223372036854775807 := by simpa [Lit.wf, IntKind.min, IntKind.max, IntKind.signed, IntKind.bits] using h
  exact this
theorem wrap_in (x : Int) : inI64 (wrap64 x) := by unfold inI64 wrap64; omega
def Drawn3 (w : World) (e : Ending) (w' : World) : Prop :=
  ∃ a b c : Int, e = .returned (.tuple #[.int .i64 a, .int .i64 b, .int .i64 c]) ∧ Below w.heap.size w w'
theorem below_cur {T : TypeId} {B g : Nat} {w w' w'' : World} (h : Below B w w') (hc : Cur T B w' g) (hg : w'.grownBy w'' (some g)) : Below B w w'' :=
  h.grown hg (by have := hc.1; have := hc.lt; omega) (fun k e => by injection e with e; have := hc.1; omega)
theorem bigB_le {n : Nat} (h : ¬ n > 1048576) : n ≤ 2000000 := by omega
end Go.Proofs.Ytklmhkckhdmelaa
