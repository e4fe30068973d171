/- Words of 32 bits: the fold, the product and the mixing, and that each can be undone. No condition. And what goes with it. -/
import Derived.WalkKit
import Derived.ProofKit
import Derived.IntWalk
import Derived.Laws.BitsAllLaws
import Derived.Laws.BitsLemmas
import Derived.WalkLawsBesides
import Derived.Below
import Derived.Laws.OwnMore
import Derived.Deep.Draws
import Derived.Deep.AppendLies
import Derived.Maps.AppendAt
import Derived.Laws.Rows
import Derived.Lib.Hide
import Derived.OwnWalk
import Derived.Deep.RegionHeld3
import Derived.Deep.DeepCutAuto
import Derived.Deep.DrawnRows
import Derived.Laws.IdiomStrings
import Derived.Deep.RegionLaw
import Derived.Outline
import Derived.Lib.BufferRead
import Derived.Laws.CopyOwn
import Derived.BigQuiet
import Derived.Deep.QuietTactic
import Derived.Test.YtfpcjgolcbjnjaaProg
import Derived.Deep.AppendSrc
import Derived.Handy
namespace Go.Proofs.Ytfpcjgolcbjnjaa
open Go Go.RowKit

theorem i64_bits_small (a : Nat) (ha : a < 9223372036854775808) : (BitVec.ofInt 64 (a : Int)).toNat = a := by
  rw [BitVec.ofInt_natCast, BitVec.toNat_ofNat]; exact Nat.mod_eq_of_lt (by omega)
theorem i64_xor_nat (a b : Nat) (ha : a < 9223372036854775808) (hb : b < 9223372036854775808) : bits .xor .i64 (a : Int) (b : Int) = ((a ^^^ b : Nat) : Int) := by
  have hx : a ^^^ b < 2 ^ 63 := Nat.xor_lt_two_pow (by omega) (by omega)
  show IntKind.i64.wrap ((BitVec.ofInt 64 (a : Int) ^^^ BitVec.ofInt 64 (b : Int)).toNat : Int) = _
  rw [BitVec.toNat_xor, i64_bits_small a ha, i64_bits_small b hb, IntKind.wrap_i64]
  omega
theorem i64_and_nat (a b : Nat) (ha : a < 9223372036854775808) (hb : b < 9223372036854775808) : bits .and .i64 (a : Int) (b : Int) = ((a &&& b : Nat) : Int) := by
  have hx : a &&& b < 2 ^ 63 := Nat.and_lt_two_pow _ (by omega)
  show IntKind.i64.wrap ((BitVec.ofInt 64 (a : Int) &&& BitVec.ofInt 64 (b : Int)).toNat : Int) = _
  rw [BitVec.toNat_and, i64_bits_small a ha, i64_bits_small b hb, IntKind.wrap_i64]
  omega
theorem i64_and_mask32 (x : Int) : bits .and .i64 x 4294967295 = x % 4294967296 := by
  have e : ((4294967295 : Nat) : Int) = 4294967295 := rfl
  show IntKind.i64.wrap ((BitVec.ofInt 64 x &&& BitVec.ofInt 64 (4294967295 : Int)).toNat : Int) = _
  have h2 : (BitVec.ofInt 64 (4294967295 : Int)).toNat = 4294967295 := by decide
  have h3 : ((BitVec.ofInt 64 x).toNat : Int) = x % 18446744073709551616 := by
    rw [BitVec.toNat_ofInt, Int.toNat_of_nonneg (by omega)]
    rfl
  have h4 : (BitVec.ofInt 64 x).toNat &&& 4294967295 = (BitVec.ofInt 64 x).toNat % 4294967296 := Nat.and_two_pow_sub_one_eq_mod _ 32
  rw [BitVec.toNat_and, h2, h4, IntKind.wrap_i64]
  omega
theorem i64_and_one (x : Int) : bits .and .i64 x 1 = x % 2 := by
  show IntKind.i64.wrap ((BitVec.ofInt 64 x &&& BitVec.ofInt 64 (1 : Int)).toNat : Int) = _
  have h2 : (BitVec.ofInt 64 (1 : Int)).toNat = 1 := by decide
  have h3 : ((BitVec.ofInt 64 x).toNat : Int) = x % 18446744073709551616 := by
    rw [BitVec.toNat_ofInt, Int.toNat_of_nonneg (by omega)]
    rfl
  have h4 : (BitVec.ofInt 64 x).toNat &&& 1 = (BitVec.ofInt 64 x).toNat % 2 := Nat.and_two_pow_sub_one_eq_mod _ 1
  rw [BitVec.toNat_and, h2, h4, IntKind.wrap_i64]
  omega

def isWord (x : Int) : Prop := 0 ≤ x ∧ x ≤ 4294967295
instance (x : Int) : Decidable (isWord x) := by unfold isWord; infer_instance
def xorI (a b : Int) : Int := if isWord a ∧ isWord b then ((a.toNat ^^^ b.toNat : Nat) : Int) else 0
def foldN (x : Nat) : Nat := x ^^^ (x / 65536)
def prodN (x : Nat) : Nat := x * 73244475 % 4294967296
def mixN (x : Nat) : Nat := foldN (prodN (foldN (prodN (foldN x))))
def mixI (x : Int) : Int := if isWord x then (mixN x.toNat : Int) else 0
def keyedI (k a b : Int) : Int := if isWord k ∧ isWord a ∧ isWord b then mixI (xorI (mixI (xorI (mixI k) a)) b) else 0

theorem xor_word (a b : Nat) (ha : a < 4294967296) (hb : b < 4294967296) : a ^^^ b < 4294967296 :=
  Nat.xor_lt_two_pow (n := 32) ha hb
theorem foldN_lt (x : Nat) (h : x < 4294967296) : foldN x < 4294967296 := xor_word _ _ h (by omega)
theorem prodN_lt (x : Nat) : prodN x < 4294967296 := by unfold prodN; omega
theorem mixN_lt (x : Nat) : mixN x < 4294967296 := foldN_lt _ (prodN_lt _)
theorem foldN_back (x : Nat) (h : x < 4294967296) : foldN (foldN x) = x := by
  have e : ∀ y : Nat, y / 65536 = y >>> 16 := fun y => by rw [Nat.shiftRight_eq_div_pow]
  unfold foldN
  rw [e (x ^^^ x / 65536), e x, Nat.shiftRight_xor_distrib, ← Nat.shiftRight_add]
  have h0 : x >>> (16 + 16) = 0 := by rw [Nat.shiftRight_eq_div_pow]; omega
  rw [h0, Nat.xor_zero, Nat.xor_assoc, Nat.xor_self, Nat.xor_zero]
theorem prodN_back (x : Nat) (h : x < 4294967296) : prodN x * 295559667 % 4294967296 = x := by
  unfold prodN
  omega
theorem foldN_inj {x y : Nat} (hx : x < 4294967296) (hy : y < 4294967296) (h : foldN x = foldN y) : x = y := by
  rw [← foldN_back x hx, h, foldN_back y hy]
theorem prodN_inj {x y : Nat} (hx : x < 4294967296) (hy : y < 4294967296) (h : prodN x = prodN y) : x = y := by
  rw [← prodN_back x hx, h, prodN_back y hy]
theorem mixN_inj {x y : Nat} (hx : x < 4294967296) (hy : y < 4294967296) (h : mixN x = mixN y) : x = y :=
  foldN_inj hx hy (prodN_inj (foldN_lt _ hx) (foldN_lt _ hy) (foldN_inj (prodN_lt _) (prodN_lt _) (prodN_inj (foldN_lt _ (prodN_lt _)) (foldN_lt _ (prodN_lt _)) (foldN_inj (prodN_lt _) (prodN_lt _) h))))
theorem mixI_word (x : Int) : isWord (mixI x) := by
  unfold mixI
  split
  · have := mixN_lt x.toNat; unfold isWord; omega
  · unfold isWord; omega
theorem mixI_inj {x y : Int} (hx : isWord x) (hy : isWord y) (h : mixI x = mixI y) : x = y := by
  unfold mixI at h
  rw [if_pos hx, if_pos hy] at h
  unfold isWord at hx hy
  have := mixN_inj (x := x.toNat) (y := y.toNat) (by omega) (by omega) (by omega)
  omega
theorem xorI_word (a b : Int) : isWord (xorI a b) := by
  unfold xorI
  split
  next h => 
    have := xor_word a.toNat b.toNat (by unfold isWord at h; omega) (by unfold isWord at h; omega)
    unfold isWord; omega
  · unfold isWord; omega
theorem xorI_nat (a b : Nat) (ha : a < 4294967296) (hb : b < 4294967296) : xorI (a : Int) (b : Int) = ((a ^^^ b : Nat) : Int) := by
  unfold xorI
  rw [if_pos (by unfold isWord; omega)]
  simp
theorem word_nat {x : Int} (h : isWord x) : ∃ n : Nat, x = (n : Int) ∧ n < 4294967296 := ⟨x.toNat, by unfold isWord at h; omega, by unfold isWord at h; omega⟩
theorem xorI_bits {a b : Int} (ha : isWord a) (hb : isWord b) : bits .xor .i64 a b = xorI a b := by
  obtain ⟨a, rfl, ka⟩ := word_nat ha
  obtain ⟨b, rfl, kb⟩ := word_nat hb
  rw [xorI_nat a b ka kb, i64_xor_nat _ _ (by omega) (by omega)]
theorem xorI_back {a b : Int} (ha : isWord a) (hb : isWord b) : xorI (xorI a b) b = a := by
  obtain ⟨a, rfl, ka⟩ := word_nat ha
  obtain ⟨b, rfl, kb⟩ := word_nat hb
  rw [xorI_nat a b ka kb, xorI_nat _ b (xor_word a b ka kb) kb, Nat.xor_assoc, Nat.xor_self, Nat.xor_zero]
theorem xorI_comm (a b : Int) : xorI a b = xorI b a := by
  unfold xorI
  by_cases h : isWord a ∧ isWord b
  · rw [if_pos h, if_pos ⟨h.2, h.1⟩, Nat.xor_comm]
  · rw [if_neg h, if_neg (fun e => h ⟨e.2, e.1⟩)]
theorem xorI_inj {a b c : Int} (ha : isWord a) (hb : isWord b) (hc : isWord c) (h : xorI a b = xorI a c) : b = c := by
  rw [← xorI_back hb ha, xorI_comm b a, h, xorI_comm a c, xorI_back hc ha]
theorem keyedI_word (k a b : Int) : isWord (keyedI k a b) := by
  unfold keyedI
  split
  · exact mixI_word _
  · unfold isWord; omega
theorem keyedI_inj {k a b c : Int} (hk : isWord k) (ha : isWord a) (hb : isWord b) (hc : isWord c) (h : keyedI k a b = keyedI k a c) : b = c := by
  unfold keyedI at h
  rw [if_pos ⟨hk, ha, hb⟩, if_pos ⟨hk, ha, hc⟩] at h
  exact xorI_inj (mixI_word _) hb hc (mixI_inj (xorI_word _ _) (xorI_word _ _) h)
/-- The low bit of an exclusive or is that of the sum. -/
theorem xorI_low {a b : Int} (ha : isWord a) (hb : isWord b) : xorI a b % 2 = (a % 2 + b % 2) % 2 := by
  obtain ⟨a, rfl, ka⟩ := word_nat ha
  obtain ⟨b, rfl, kb⟩ := word_nat hb
  rw [xorI_nat a b ka kb]
  have h : (a ^^^ b) % 2 = (a % 2 + b % 2) % 2 := by
    have hx := Nat.xor_mod_two_pow (a := a) (b := b) (n := 1)
    simp only [Nat.pow_one] at hx
    rw [hx]
    rcases Nat.mod_two_eq_zero_or_one a with h | h <;> rcases Nat.mod_two_eq_zero_or_one b with h' | h' <;> rw [h, h'] <;> rfl
  omega
theorem mixI_zero : mixI 0 = 0 := by decide +kernel
theorem mixI_one : mixI 1 = 824515495 := by decide +kernel
end Go.Proofs.Ytfpcjgolcbjnjaa

namespace Go.Proofs.Ytfpcjgolcbjnjaa
open Go Go.RowKit

theorem ret_int {k : IntKind} {a b : Int} (h : a = b) : Ending.returned (.int k a) = .returned (.int k b) := by rw [h]
theorem ret_tup {a b : Value} (h : a = b) : Ending.returned a = .returned b := by rw [h]
theorem ret_bool {a b : Bool} (h : a = b) : Ending.returned (.bool a) = .returned (.bool b) := by rw [h]

/-- `and` with a number that is not negative lies between 0 and that number. -/
theorem and_range (x : Int) (m : Nat) (hm : m < 9223372036854775808) : 0 ≤ bits .and .i64 x (m : Int) ∧ bits .and .i64 x (m : Int) ≤ (m : Int) := by
  show 0 ≤ IntKind.i64.wrap ((BitVec.ofInt 64 x &&& BitVec.ofInt 64 (m : Int)).toNat : Int) ∧ IntKind.i64.wrap ((BitVec.ofInt 64 x &&& BitVec.ofInt 64 (m : Int)).toNat : Int) ≤ (m : Int)
  have hm' : (BitVec.ofInt 64 (m : Int)).toNat = m := by
    rw [BitVec.ofInt_natCast, BitVec.toNat_ofNat]
    exact Nat.mod_eq_of_lt (by omega)
  rw [BitVec.toNat_and, hm']
  have h1 : (BitVec.ofInt 64 x).toNat &&& m ≤ m := Nat.and_le_right
  rw [IntKind.wrap_i64]
  omega

/-- The cells of a slice of one-cell elements, in a block below B: each is a byte. -/
def Bytes (B : Nat) (w : World) (A : Option Addr) (n : Nat) : Prop :=
  0 < n → ∃ b o, A = some ⟨b, o, none⟩ ∧ b < B ∧ ∀ k, k < n → ∃ z : Int, 0 ≤ z ∧ z ≤ 255 ∧ w.cell? ⟨b, o + k, none⟩ = some (.int .u8 z)

theorem Bytes.none_ (B : Nat) (w : World) (A : Option Addr) : Bytes B w A 0 := fun h => absurd h (by omega)
theorem Bytes.of_row {w : World} {x : Addr} {len cap : Nat} {zs : List Int} (hl : len ≤ cap) (hz : zs.length = cap)
    (hcell : ∀ i, i < zs.length → w.cell? (x.add i) = some (.int .u8 (zs.getD i 0))) (hwz : ∀ n ∈ zs, (Lit.int .u8 n).wf = true) : Bytes w.heap.size w (some x) len := by
  intro hn
  obtain ⟨b, o, spot⟩ := x
  have h0 := hcell 0 (by omega)
  have hs : spot = none := by simpa [Addr.add] using World.cell?_spot h0
  subst hs
  refine ⟨b, o, rfl, ?_, fun k hk => ?_⟩
  · have := World.block_lt_of_cell? w _ h0
    simpa [Addr.add] using this
  · have hc := hcell k (by omega)
    have hm : zs.getD k 0 ∈ zs := by
      rw [List.getD_eq_getElem?_getD, List.getElem?_eq_getElem (by omega), Option.getD_some]
      exact List.getElem_mem _
    have hw := hwz _ hm
    have hr : 0 ≤ zs.getD k 0 ∧ zs.getD k 0 ≤ 255 := by simpa [Lit.wf, IntKind.min, IntKind.max, IntKind.signed, IntKind.bits] using hw
    refine ⟨zs.getD k 0, hr.1, hr.2, ?_⟩
    rw [← hc]
    rcases Nat.eq_zero_or_pos k with h | h
    · subst h; simp [Addr.add]
    · simp [Addr.add, Nat.ne_of_gt h]

theorem Bytes.keep {B n : Nat} {w w' : World} {A : Option Addr} (h : Bytes B w A n) (hk : ∀ k, k < B → w'.heap[k]? = w.heap[k]?) : Bytes B w' A n := by
  intro hn
  obtain ⟨b, o, hA, hb, hc⟩ := h hn
  refine ⟨b, o, hA, hb, fun k hk' => ?_⟩
  obtain ⟨z, h0, h1, h2⟩ := hc k hk'
  exact ⟨z, h0, h1, (World.cell?_of_block (hk b hb)).trans h2⟩

/-- Block g is a cursor over a draw: made at or above block B, its bytes below B. -/
def Cur (T : TypeId) (B : Nat) (w : World) (g : Nat) : Prop :=
  B ≤ g ∧ ∃ (A : Option Addr) (n c i : Nat) (h : Int), w.heap[g]? = some (.cells #[.slice A n c, .int .i64 (i : Int), .int .i64 h] T (0, 0)) ∧ i ≤ n ∧ n ≤ 2000000 ∧ Bytes B w A n

theorem Cur.lt {T : TypeId} {B g : Nat} {w : World} (h : Cur T B w g) : g < w.heap.size := by
  obtain ⟨_, A, n, c, i, hh, hg, _⟩ := h
  exact (Array.getElem?_eq_some_iff.1 hg).1

theorem Cur.keep {T : TypeId} {B g : Nat} {w w' : World} (h : Cur T B w g) (hk : ∀ k, k < B → w'.heap[k]? = w.heap[k]?) (hg' : w'.heap[g]? = w.heap[g]?) : Cur T B w' g := by
  obtain ⟨hB, A, n, c, i, hh, hg, hi, hn, hb⟩ := h
  exact ⟨hB, A, n, c, i, hh, hg'.trans hg, hi, hn, hb.keep hk⟩
theorem Cur.drewN {T : TypeId} {B g : Nat} {w : World} (h : Cur T B w g) (k : Nat) : Cur T B (w.drewN k) g := h
theorem Cur.drew {T : TypeId} {B g : Nat} {w : World} (h : Cur T B w g) : Cur T B w.drew g := h
theorem Cur.below {T : TypeId} {B B' g : Nat} {w w' : World} (h : Cur T B w g) (hb : Below B' w w') (hg : g < B') : Cur T B w' g :=
  h.keep (fun k hk => hb.block k (by have := h.1; omega)) (hb.block g hg)
theorem Cur.alloc {T : TypeId} {B g : Nat} {w : World} (h : Cur T B w g) (o : Obj) : Cur T B (w.alloc o) g :=
  h.keep (fun k hk => Below.heap_alloc w o k (by have := h.1; have := h.lt; omega)) (Below.heap_alloc w o g h.lt)
theorem Cur.grown {T : TypeId} {B g : Nat} {w w' : World} {row : Option Nat} (h : Cur T B w g) (hb : w.grownBy w' row) (hr : ∀ k, row = some k → g < k) : Cur T B w' g := by
  have hl := h.lt
  have hB := h.1
  exact h.keep (fun k hk => hb.block k (by omega) (fun e => by have := hr k e.symm; omega)) (hb.block g hl (fun e => by have := hr g e.symm; omega))

theorem grownBy_set (w : World) (g i : Nat) (v : Value) : w.grownBy (w.setCell ⟨g, i, none⟩ v) (some g) :=
  ⟨rfl, rfl, rfl, by simp [World.setCell], fun k _ hk => Below.heap_setCell w _ v k (fun e => hk (by rw [e]))⟩
theorem grownBy_drewN {a w : World} {row : Option Nat} (h : a.grownBy w row) (n : Nat) : a.grownBy (w.drewN n) row := ⟨h.os, h.tape, h.output, h.size, h.block⟩
theorem grownBy_drew {a w : World} {row : Option Nat} (h : a.grownBy w row) : a.grownBy w.drew row := ⟨h.os, h.tape, h.output, h.size, h.block⟩
theorem grownBy_below {a w : World} {row : Option Nat} (h : Below a.heap.size a w) : a.grownBy w row := ⟨h.os, h.tape, h.output, h.size, fun k hk _ => h.block k hk⟩
theorem heap_set {w : World} {g i : Nat} {cs : Array Value} {T : TypeId} (h : w.heap[g]? = some (.cells cs T (0, 0))) (v : Value) :
    (w.setCell ⟨g, i, none⟩ v).heap[g]? = some (.cells (cs.setIfInBounds i v) T (0, 0)) := by
  simp [World.setCell, Array.getElem?_modify, h]
/-- The cursor behind a step: its number turned, its place perhaps. -/
theorem Cur.of_ {T : TypeId} {B g n c i : Nat} {A : Option Addr} {h : Int} {w w' : World} (hB : B ≤ g) (hb : Bytes B w A n) (hi : i ≤ n) (hn : n ≤ 2000000)
    (hg : w'.heap[g]? = some (.cells #[.slice A n c, .int .i64 (i : Int), .int .i64 h] T (0, 0))) (hk : w.grownBy w' (some g)) (hlt : g < w.heap.size) : Cur T B w' g :=
  ⟨hB, A, n, c, i, h, hg, hi, hn, hb.keep fun k hk' => hk.block k (by omega) (fun e => by injection e with e; omega)⟩

/-- A new cursor. -/
def NewCur (T : TypeId) (w : World) (e : Ending) (w' : World) : Prop :=
  ∃ g, e = .returned (.pointer (some ⟨g, 0, none⟩)) ∧ Cur T w.heap.size w' g ∧ Below w.heap.size w w'

/-- A number that was drawn; of what there was, only the cursor's block has turned. -/
def Drawn (T : TypeId) (B g : Nat) (P : Int → Prop) (w : World) (e : Ending) (w' : World) : Prop :=
  ∃ x : Int, e = .returned (.int .i64 x) ∧ P x ∧ Cur T B w' g ∧ w.grownBy w' (some g)
def DrawnBool (T : TypeId) (B g : Nat) (w : World) (e : Ending) (w' : World) : Prop :=
  ∃ x : Bool, e = .returned (.bool x) ∧ Cur T B w' g ∧ w.grownBy w' (some g)
/-- A text that was drawn. -/
def DrawnText (T : TypeId) (B g : Nat) (P : ByteArray → Prop) (w : World) (e : Ending) (w' : World) : Prop :=
  ∃ s : ByteArray, e = .returned (.string s) ∧ P s ∧ Cur T B w' g ∧ w.grownBy w' (some g)
/-- What the program's table says of a slice type t over the element type e. -/
structure Elem (P : Program) (t e : TypeId) (size bytes : Nat) : Prop where
  ht : P.underlying t = some (.slice e)
  info : ∃ i z, P.info? e = some i ∧ i.zero = some z ∧ i.size = size ∧ i.bytes = bytes ∧ z.cells.size = size
  pos : 0 < size

section
variable {P : Program} {t e e' : TypeId} {size bytes : Nat} {w : World}
/-- append of elements that lie in a block of their own, at a step of a drawn region. -/
theorem app_step (L : Elem P t e size bytes) {ops : Array Oper} {o : Oper} {a : Act} {K : Act → World → Prop} {Q : Exit → Act → World → Prop} {E : Prop} (hgd : o.guard = none) (s x : Operand)
    (ho : o.op = .call { callee := .builtin .append, args := #[s, x], argTypes := #[t, t] }) (base : Nat) (v : Value) (n : Nat) (xs : List Value) (hs : a.eval s = v) (hown : w.ownsRow base e size v n xs)
    (g0 m c : Nat) (cs : Array Value) (fr : Nat × Nat) (hx : a.eval x = .slice (some ⟨g0, 0, none⟩) m c) (hblk : w.heap[g0]? = some (.cells cs e' fr)) (hl : cs.size = m * size) (h1 : ∀ u ∈ cs.toList, u.oneCell' = true)
    (hm : 0 < m) (h63 : n + m ≤ maxLen) (hbytes : (n + m) * bytes ≤ 140737488355328) (hbase : base ≤ w.heap.size) (H : Nat) (hH : w.heap.size = H)
    (h : ∀ g cap w', w'.ownsRow base e size (.slice (some ⟨g, 0, none⟩) (n + m) cap) (n + m) (xs ++ cs.toList) → w.grownBy w' v.ownBlock → (v.ownBlock = some g ∨ g = H) → g < w'.heap.size → K (a.put o.dst (.slice (some ⟨g, 0, none⟩) (n + m) cap)) w') :
    if Region.wanted o (yielded ops a.tmps) = true then Oper.wp P o a w K Q else E := by
  obtain ⟨i, z, hi, hz, hz1, hz2, hz3⟩ := L.info
  exact step_append_lies w hgd s x t ho base e i z size bytes L.ht hi hz hz1 hz2 hz3 L.pos v n xs hs hown ⟨g0, 0, none⟩ m c cs.toList hx (by simpa using hl) (World.news_of_block hblk) h1 hm h63 hbytes hbase H hH h
/-- The same in a plain region. -/
theorem app_list (L : Elem P t e size bytes) {ops : Array Oper} {rest : List Oper} {o : Oper} {a : Act} {Q : Exit → Act → World → Prop} (hgd : o.guard = none) (s x : Operand)
    (ho : o.op = .call { callee := .builtin .append, args := #[s, x], argTypes := #[t, t] }) (base : Nat) (v : Value) (n : Nat) (xs : List Value) (hs : a.eval s = v) (hown : w.ownsRow base e size v n xs)
    (g0 m c : Nat) (cs : Array Value) (fr : Nat × Nat) (hx : a.eval x = .slice (some ⟨g0, 0, none⟩) m c) (hblk : w.heap[g0]? = some (.cells cs e' fr)) (hl : cs.size = m * size) (h1 : ∀ u ∈ cs.toList, u.oneCell' = true)
    (hm : 0 < m) (h63 : n + m ≤ maxLen) (hbytes : (n + m) * bytes ≤ 140737488355328) (hbase : base ≤ w.heap.size) (H : Nat) (hH : w.heap.size = H)
    (h : ∀ g cap w', w'.ownsRow base e size (.slice (some ⟨g, 0, none⟩) (n + m) cap) (n + m) (xs ++ cs.toList) → w.grownBy w' v.ownBlock → (v.ownBlock = some g ∨ g = H) → g < w'.heap.size → wpList P ops Q rest (a.put o.dst (.slice (some ⟨g, 0, none⟩) (n + m) cap)) w') : wpList P ops Q (o :: rest) a w := by
  obtain ⟨i, z, hi, hz, hz1, hz2, hz3⟩ := L.info
  exact wpList_append_lies w hgd s x t ho base e i z size bytes L.ht hi hz hz1 hz2 hz3 L.pos v n xs hs hown ⟨g0, 0, none⟩ m c cs.toList hx (by simpa using hl) (World.news_of_block hblk) h1 hm h63 hbytes hbase H hH h
end
/-- make of an empty slice with room. -/
theorem make_list {P : Program} {t e : TypeId} {size bytes : Nat} {w : World} (L : Elem P t e size bytes) {ops : Array Oper} {rest : List Oper} {o : Oper} {a : Act} {Q : Exit → Act → World → Prop} (hgd : o.guard = none) (l c : Operand)
    (ho : o.op = Op.makeSlice t l c) (base : Nat) (kl kc : IntKind) (C : Int) (n : Nat) (hl : a.eval l = .int kl 0) (hc : a.eval c = .int kc C) (hC : C = (n : Int)) (b2 : bytes * n ≤ 281474976710656) (b3 : n ≤ maxLen) (b4 : base ≤ w.heap.size)
    (h : ∀ w', w'.ownsRow base e size (.slice (some ⟨w.heap.size, 0, none⟩) 0 n) 0 [] → w.grownBy w' none → wpList P ops Q rest (a.put o.dst (.slice (some ⟨w.heap.size, 0, none⟩) 0 n)) w') :
    wpList P ops Q (o :: rest) a w := by
  obtain ⟨i, z, hi, hz, hz1, hz2, hz3⟩ := L.info
  exact wpList_make_own w hgd l c t ho base e i z size L.ht hi hz hz1 kl kc C n hl hc hC (by rw [hz2]; exact b2) b3 b4 h
theorem below_own {B base : Nat} {w0 w w' : World} {e : TypeId} {size n : Nat} {v : Value} {xs : List Value} (h : Below B w0 w) (hown : w.ownsRow base e size v n xs) (hg : w.grownBy w' v.ownBlock) (hB : B ≤ base) (hw : B ≤ w.heap.size) : Below B w0 w' :=
  h.grown hg hw fun k hk => by have := (hown.lt k hk).1; omega
theorem oneCell_u8 (l : List Int) : ∀ u ∈ l.map (Value.int .u8), u.oneCell' = true := by
  intro u hu
  obtain ⟨x, _, rfl⟩ := List.mem_map.1 hu
  rfl
theorem oneCell_i64 (l : List Int) : ∀ u ∈ l.map (Value.int .i64), u.oneCell' = true := by
  intro u hu
  obtain ⟨x, _, rfl⟩ := List.mem_map.1 hu
  rfl
/-- Bytes as cells. -/
def byteVals (l : List UInt8) : List Value := l.map fun c => Value.int .u8 (c.toNat : Int)
theorem byteVals_append (a b : List UInt8) : byteVals (a ++ b) = byteVals a ++ byteVals b := by simp [byteVals]
theorem byteVals_length (a : List UInt8) : (byteVals a).length = a.length := by simp [byteVals]

theorem take_all (s : ByteArray) : s.data.toList.take s.size = s.data.toList := List.take_of_length_le (by simp)
theorem getD_at (s : ByteArray) (i : Nat) (h : i < s.size) : s.data.toList.getD i 0 = s[i] := by
  rw [List.getD_eq_getElem?_getD, List.getElem?_eq_getElem (by simpa using h)]; rfl
def byteAt (s : ByteArray) (i : Nat) : UInt8 := s.data.toList.getD i 0
theorem byteAt_eq (s : ByteArray) (i : Nat) (h : i < s.size) : s[i] = byteAt s i := (getD_at s i h).symm
theorem ownsRow_slice {w : World} {base size n : Nat} {e : TypeId} {v : Value} {xs : List Value} (h : w.ownsRow base e size v n xs) : ∃ (A : Option Addr) (m c : Nat), v = .slice A m c ∧ n = m := by
  rcases h.2 with ⟨rfl, h0⟩ | ⟨g, cap, cur, rfl, _⟩
  · exact ⟨none, 0, 0, rfl, h0⟩
  · exact ⟨_, _, cap, rfl, rfl⟩
theorem own_addr {w : World} {base size n c : Nat} {e : TypeId} {A : Option Addr} {xs : List Value} (h : w.ownsRow base e size (.slice A n c) n xs) (hn : 0 < n) : ∃ g, A = some ⟨g, 0, none⟩ ∧ base ≤ g ∧ g < w.heap.size := by
  rcases h.2 with ⟨he, h1⟩ | ⟨g, cap, cur, he, hb, hg, _⟩
  · omega
  · injection he with he1 he2 he3
    exact ⟨g, he1, hb, (Array.getElem?_eq_some_iff.1 hg).1⟩
theorem own_below {w w' : World} {base size n : Nat} {e : TypeId} {v : Value} {xs : List Value} (h : w.ownsRow base e size v n xs) (hb : Below w.heap.size w w') : w'.ownsRow base e size v n xs :=
  h.kept (row := none) ⟨hb.os, hb.tape, hb.output, hb.size, fun k hk _ => hb.block k hk⟩ (by cases v.ownBlock <;> simp)
theorem own_mono {w : World} {base base' size n : Nat} {e : TypeId} {v : Value} {xs : List Value} (h : w.ownsRow base e size v n xs) (hb : base' ≤ base) : w.ownsRow base' e size v n xs :=
  ⟨h.1, h.2.imp id fun ⟨g, cap, cur, he, hg, r⟩ => ⟨g, cap, cur, he, Nat.le_trans hb hg, r⟩⟩
/-- string(b), b a slice of bytes of the call's own. -/
theorem conv_bytes {P : Program} {w : World} {src dst e e' : TypeId} {base n : Nat} {v : Value} {l : List UInt8} (hs : P.underlying src = some (.slice e)) (he : P.underlying e = some (.int .u8)) (hd : P.underlying dst = some .string)
    (hown : w.ownsRow base e' 1 v n (byteVals l)) : (convert src dst v).run P w = .ok (.string ⟨l.toArray⟩) w := by
  have hlen : l.length = n := by have := hown.1; simpa [byteVals_length] using this
  rcases hown.2 with ⟨rfl, h0⟩ | ⟨g, cap, cur, rfl, _, hg, hc1, hc2, hc3, hc4⟩
  · have hl : l = [] := List.eq_nil_of_length_eq_zero (by omega)
    subst hl
    exact Lib.run_convert_nil_bytes w src dst e 0 hs he hd
  · subst hlen
    refine run_convert_bytes_back w src dst e ⟨g, 0, none⟩ cap l hs he hd fun j hj => ?_
    exact hown.cells (g := g) rfl j _ (by simp [byteVals, hj])

/-- Two strings that differ, in the walk's words. -/
theorem str_ne {a b : ByteArray} (h : a.data.toList ≠ b.data.toList) : (a.toList == b.toList) = false ∧ ¬ a.toList = b.toList := by
  rw [Lib.toList_data, Lib.toList_data]
  exact ⟨beq_eq_false_iff_ne.2 h, h⟩
/-- A string that is not empty, in the walk's words. -/
theorem str_some {a : ByteArray} (h : a.data.toList ≠ []) : a.toList.isEmpty = false ∧ ¬ a.toList = [] := by
  rw [Lib.toList_data]
  exact ⟨by rw [Bool.eq_false_iff]; intro e; exact h (List.isEmpty_iff.1 e), h⟩
def inI64 (x : Int) : Prop := -9223372036854775808 ≤ x ∧ x ≤ 9223372036854775807
/-- The cells of a new block of integers. -/
theorem cells_new (w : World) (l : List Int) (T : TypeId) (P : Int → Prop) (hP : ∀ x, x ∈ l → P x) :
    ∀ k, k < l.length → ∃ x : Int, P x ∧ (w.alloc (.cells (l.map (Value.int .i64)).toArray T)).cell? ⟨w.heap.size, 0 + k, none⟩ = some (.int .i64 x) := by
  intro k hk
  refine ⟨l[k], hP _ (List.getElem_mem _), ?_⟩
  have h := heap_alloc_new w (.cells (l.map (Value.int .i64)).toArray T)
  have h2 := cell_of_row (w.alloc (.cells (l.map (Value.int .i64)).toArray T)) w.heap.size (0 + k) _ T (0, 0) h
  rw [h2]
  simp [hk]
theorem inI64_of {n : Int} (h : (Lit.int .i64 n).wf = true) : inI64 n := by
  have : -9223372036854775808 ≤ n ∧ n ≤ 9223372036854775807 := by simpa [Lit.wf, IntKind.min, IntKind.max, IntKind.signed, IntKind.bits] using h
  exact this
theorem wrap_in (x : Int) : inI64 (wrap64 x) := by unfold inI64 wrap64; omega
def Drawn3 (w : World) (e : Ending) (w' : World) : Prop :=
  ∃ a b c : Int, e = .returned (.tuple #[.int .i64 a, .int .i64 b, .int .i64 c]) ∧ Below w.heap.size w w'
theorem below_cur {T : TypeId} {B g : Nat} {w w' w'' : World} (h : Below B w w') (hc : Cur T B w' g) (hg : w'.grownBy w'' (some g)) : Below B w w'' :=
  h.grown hg (by have := hc.1; have := hc.lt; omega) (fun k e => by injection e with e; have := hc.1; omega)
theorem bigB_le {n : Nat} (h : ¬ n > 1048576) : n ≤ 2000000 := by omega
end Go.Proofs.Ytfpcjgolcbjnjaa

namespace Go.Proofs.Ytfpcjgolcbjnjaa
open Go Go.RowKit

theorem newCur_mk (T : TypeId) (A : Option Addr) (n c : Nat) (x : Int) (w : World) (hb : Bytes w.heap.size w A n) (hn : n ≤ 2000000) :
    NewCur T w (.returned (.pointer (some ⟨w.heap.size, 0, none⟩))) (w.alloc (.cells #[.slice A n c, .int .i64 0, .int .i64 x] T)) :=
  ⟨w.heap.size, rfl, ⟨Nat.le_refl _, A, n, c, 0, x, heap_alloc_new w _, Nat.zero_le _, hn, hb.keep fun k hk => Below.heap_alloc w _ k hk⟩, (Below.refl _ _).alloc (Nat.le_refl _) _⟩

set_option maxRecDepth 100000 in
theorem l01New_any (A : Option Addr) (n c : Nat) (w : World) (hb : Bytes w.heap.size w A n) (hn : n ≤ 2000000) :
    Calls Try.prog 43 #[.slice A n c] w (NewCur 95 w) := by
  go_enter Try.func43, Try.ntmps43
  go_wp2
  go_loop [3, 4] (fun h i => ∃ (k : Nat) (x : Int), k ≤ n ∧ i = .int .i64 k ∧ h = .int .i64 x) (fun _ i => n - (intOf i).toNat)
  case atStart => exact ⟨0, _, Nat.zero_le _, rfl, rfl⟩
  case round =>
    obtain ⟨k, x, hk, rfl, rfl⟩ := hrel
    by_cases hlt : k < n
    · by_cases h4 : k < 4000
      · obtain ⟨b, o, rfl, hbb, hcell⟩ := hb (by omega)
        obtain ⟨z, hz0, hz1, hz⟩ := hcell k hlt
        have hk0 : (0 : Int) ≤ k := by omega
        clear hcell hb
        go_wp2_with fail
        go_round
        case rel => exact ⟨k + 1, _, by omega, by go_num, rfl⟩
        case measure => simp [intOf]; omega
      · go_wp2
        go_ret
        exact newCur_mk _ A n c x w hb hn
    · go_wp2
      go_ret
      exact newCur_mk _ A n c x w hb hn

/-- A byte that is drawn. -/
theorem l01Byte_any (B g : Nat) (w : World) (hc : Cur 95 B w g) :
    Calls Try.prog 107 #[.pointer (some ⟨g, 0, none⟩)] w (Drawn 95 B g (fun x => 0 ≤ x ∧ x ≤ 255) w) := by
  obtain ⟨hB, A, n, c, i, h, hg, hi, hn, hb⟩ := hc
  have c0 : w.cell? ⟨g, 0, none⟩ = some (.slice A n c) := by simp [World.cell?, hg]
  have c1 : w.cell? ⟨g, 1, none⟩ = some (.int .i64 (i : Int)) := by simp [World.cell?, hg]
  have c2 : w.cell? ⟨g, 2, none⟩ = some (.int .i64 h) := by simp [World.cell?, hg]
  have f1 : w.frozen? ⟨g, 1, none⟩ = false := by simp [World.frozen?, hg]
  have f2 : w.frozen? ⟨g, 2, none⟩ = false := by simp [World.frozen?, hg]
  have hgl : g < w.heap.size := (Array.getElem?_eq_some_iff.1 hg).1
  have Hg := Lib.hid hg
  have Hb := Lib.hid hb
  clear hg
  by_cases hlt : i < n
  · obtain ⟨b, o, rfl, hbb, hcell⟩ := hb (by omega)
    obtain ⟨z, hz0, hz1, hz⟩ := hcell i hlt
    have hne : b ≠ g := by omega
    have hne' : g ≠ b := by omega
    have hi0 : (0 : Int) ≤ i := by omega
    have hin : (i : Int) < n := by omega
    clear hcell hb
    go_enter Try.func107, Try.ntmps107
    go_wp2_with fail
    go_quiet (fail)
    go_wp2_with fail
    go_quiet (fail)
    go_wp2_with fail
    go_quiet (fail)
    go_wp2_with fail
    go_ret
    refine ⟨_, rfl, and_range _ 255 (by omega), ?_, ?_⟩
    · exact Cur.of_ (i := i + 1) hB Hb.out (by omega) hn (heap_set (heap_set Hg.out _) _) ((grownBy_drewN (grownBy_set w g 2 _) _).trans (grownBy_set _ g 1 _)) hgl
    · exact ((grownBy_drewN (grownBy_set w g 2 _) _).trans (grownBy_set _ g 1 _))
  · clear hb
    go_enter Try.func107, Try.ntmps107
    go_wp2_with fail
    go_quiet (fail)
    go_wp2_with fail
    go_quiet (fail)
    go_wp2_with fail
    go_ret
    refine ⟨_, rfl, and_range _ 255 (by omega), ?_, ?_⟩
    · exact Cur.of_ hB Hb.out hi hn (heap_set Hg.out _) (grownBy_drewN (grownBy_drewN (grownBy_set w g 2 _) _) _) hgl
    · exact grownBy_drewN (grownBy_drewN (grownBy_set w g 2 _) _) _

def isBelow (n x : Int) : Prop := (n ≤ 0 → x = 0) ∧ (0 < n → 0 ≤ x ∧ x < n)

theorem drawn_zero {T : TypeId} {B g : Nat} {w : World} {n : Int} (hc : Cur T B w g) (hn : n ≤ 0) : Drawn T B g (isBelow n) w (.returned (.int .i64 0)) w :=
  ⟨0, rfl, ⟨fun _ => rfl, fun h => by omega⟩, hc, World.grownBy.refl w _⟩

theorem l01Below_any (B g : Nat) (n : Int) (w : World) (hc : Cur 95 B w g) :
    Calls Try.prog 78 #[.pointer (some ⟨g, 0, none⟩), .int .i64 n] w (Drawn 95 B g (isBelow n) w) := by
  by_cases h0 : n ≤ 0
  · go_enter Try.func78, Try.ntmps78
    go_wp2_with fail
    go_ret
    exact drawn_zero hc h0
  · by_cases h1 : n ≤ 256
    · have hp : 0 < n := by omega
      have hp1 : 1 ≤ n := by omega
      go_enter Try.func78, Try.ntmps78
      go_wp2_with fail
      refine (l01Byte_any B g w hc).mono ?_
      rintro e w1 ⟨x, rfl, ⟨hx0, hx1⟩, hc1, hg1⟩
      have hnn : n ≠ 0 := by omega
      go_wp2_with fail
      go_ret
      exact ⟨_, rfl, ⟨fun h => by omega, fun _ => ⟨Int.emod_nonneg _ hnn, Int.emod_lt_of_pos _ hp⟩⟩, hc1, hg1⟩
    · have hp : 0 < n := by omega
      have hp1 : 1 ≤ n := by omega
      go_enter Try.func78, Try.ntmps78
      go_wp2_with fail
      refine (l01Byte_any B g w hc).mono ?_
      rintro e w1 ⟨x, rfl, ⟨hx0, hx1⟩, hc1, hg1⟩
      go_wp2_with fail
      refine (l01Byte_any B g w1 hc1).mono ?_
      rintro e w2 ⟨y, rfl, ⟨hy0, hy1⟩, hc2, hg2⟩
      go_wp2_with fail
      refine (l01Byte_any B g w2 hc2).mono ?_
      rintro e w3 ⟨z, rfl, ⟨hz0, hz1⟩, hc3, hg3⟩
      go_wp2_with fail
      refine (l01Byte_any B g w3 hc3).mono ?_
      rintro e w4 ⟨u, rfl, ⟨hu0, hu1⟩, hc4, hg4⟩
      have hnn : n ≠ 0 := by omega
      go_wp2_with fail
      go_ret
      exact ⟨_, rfl, ⟨fun h => by omega, fun _ => ⟨Int.emod_nonneg _ hnn, Int.emod_lt_of_pos _ hp⟩⟩, hc4, ((hg1.trans hg2).trans hg3).trans hg4⟩


theorem l01PickInt_any (B g b o n c : Nat) (P : Int → Prop) (w : World) (hc : Cur 95 B w g) (hn : 0 < n) (hn2 : n ≤ 256) (hb : b ≠ g) (hbl : b < w.heap.size)
    (hcell : ∀ k, k < n → ∃ x : Int, P x ∧ w.cell? ⟨b, o + k, none⟩ = some (.int .i64 x)) :
    Calls Try.prog 108 #[.pointer (some ⟨g, 0, none⟩), .slice (some ⟨b, o, none⟩) n c] w (Drawn 95 B g P w) := by
  go_enter Try.func108, Try.ntmps108
  go_wp2_with fail
  refine (l01Below_any B g n w hc).mono ?_
  rintro e w1 ⟨x, rfl, ⟨_, hx⟩, hc1, hg1⟩
  obtain ⟨hx0, hx1⟩ := hx (by omega)
  obtain ⟨k, rfl⟩ := Int.eq_ofNat_of_zero_le hx0
  obtain ⟨v, hP, hv⟩ := hcell k (by omega)
  have hv1 : w1.cell? ⟨b, o + k, none⟩ = some (.int .i64 v) := (World.cell?_of_block (hg1.block b hbl (fun e => hb (by injection e)))).trans hv
  clear hcell hv hx
  go_wp2_with fail
  go_ret
  exact ⟨_, rfl, hP, hc1, hg1⟩

theorem l01In_is (x lo hi : Int) (b : Bool) (h : decide (lo ≤ x ∧ x ≤ hi) = b) (w : World) :
    Calls Try.prog 61 #[.int .i64 x, .int .i64 lo, .int .i64 hi] w fun e w' => e = .returned (.bool b) ∧ w = w' := by
  subst h
  go_enter Try.func61, Try.ntmps61
  go_wp2
  all_goals go_ret
  all_goals exact ⟨ret_bool (by simp; omega), rfl⟩
theorem big_any (A : Option Addr) (n c : Nat) (w : World) (r : Bool) (hr : decide (1048576 < n) = r) (hn : n ≤ 9223372036854775807) :
    Calls Try.prog 10 #[.slice A n c] w fun e w' => e = .returned (.bool r) ∧ w = w' := by
  go_enter Try.func10, Try.ntmps10
  go_wp2
  go_ret
  exact ⟨ret_bool (by rw [← hr]; simp; omega), rfl⟩
def figB (x : Nat) : UInt8 := UInt8.ofNat (if x < 10 then 48 + x else 87 + x)
theorem grown_own {w w1 w2 : World} {g base n size : Nat} {e : TypeId} {v : Value} {xs : List Value} (h : w.grownBy w1 (some g)) (hown : w1.ownsRow base e size v n xs) (hg : w1.grownBy w2 v.ownBlock) (hb : w.heap.size ≤ base) : w.grownBy w2 (some g) :=
  ⟨hg.os.trans h.os, hg.tape.trans h.tape, hg.output.trans h.output, Nat.le_trans h.size hg.size, fun k hk hne => (hg.block k (Nat.lt_of_lt_of_le hk h.size) (fun e => by have := (hown.lt k e.symm).1; omega)).trans (h.block k hk hne)⟩
theorem grown_below {w w1 w2 : World} {g : Nat} (h : w.grownBy w1 (some g)) (hb : Below w1.heap.size w1 w2) : w.grownBy w2 (some g) :=
  ⟨hb.os.trans h.os, hb.tape.trans h.tape, hb.output.trans h.output, Nat.le_trans h.size hb.size, fun k hk hne => (hb.block k (Nat.lt_of_lt_of_le hk h.size)).trans (h.block k hk hne)⟩
theorem grown_alloc {w w1 : World} {g : Nat} (h : w.grownBy w1 (some g)) (o : Obj) : w.grownBy (w1.alloc o) (some g) := h.trans (World.grownBy_alloc w1 o _)
theorem cur_own {T : TypeId} {B g : Nat} {w1 w2 : World} {base n size : Nat} {e : TypeId} {v : Value} {xs : List Value} (hc : Cur T B w1 g) (hown : w1.ownsRow base e size v n xs) (hg : w1.grownBy w2 v.ownBlock) (hb : g < base) : Cur T B w2 g :=
  hc.grown hg fun k e => by have := (hown.lt k e).1; omega
theorem own_cur {w1 w2 : World} {g base n size : Nat} {e : TypeId} {v : Value} {xs : List Value} (hown : w1.ownsRow base e size v n xs) (hg : w1.grownBy w2 (some g)) (hb : g < base) : w2.ownsRow base e size v n xs :=
  hown.kept hg (by
    rcases hv : v.ownBlock with _ | k
    · exact .inl rfl
    · refine .inr fun e => ?_
      injection e with e
      have := (hown.lt k hv).1
      omega)
end Go.Proofs.Ytfpcjgolcbjnjaa

namespace Go.Proofs.Ytfpcjgolcbjnjaa
open Go Go.RowKit
theorem elemU8a : Elem Try.prog 22 5 1 1 := ⟨Try.underlying22, by
  obtain ⟨i, hi, hz, h1, h2⟩ := info_parts (show (Try.prog.info? 5).map (fun i => (i.zero, i.size, i.bytes)) = some (some (.int .u8 0), 1, 1) by kernel_rfl)
  exact ⟨i, _, hi, hz, h1, h2, rfl⟩, by omega⟩
def isByteV (u : Value) : Prop := ∃ z : Int, 0 ≤ z ∧ z ≤ 255 ∧ u = .int .u8 z
theorem Bytes.list {B n : Nat} {w : World} {A : Option Addr} (h : Bytes B w A n) :
    ∃ news : List Value, news.length = n ∧ (∀ u ∈ news, isByteV u) ∧ (n = 0 ∨ ∃ a : Addr, A = some a ∧ ∀ j u, news[j]? = some u → w.cell? (a.add j) = some u) := by
  rcases Nat.eq_zero_or_pos n with h0 | hp
  · exact ⟨[], by simp [h0], by simp, .inl h0⟩
  · obtain ⟨b, o, hA, hb, hc⟩ := h hp
    have key : ∀ m, m ≤ n → ∃ l : List Value, l.length = m ∧ (∀ u ∈ l, isByteV u) ∧ ∀ j u, l[j]? = some u → w.cell? ⟨b, o + j, none⟩ = some u := by
      intro m
      induction m with
      | zero => intro _; exact ⟨[], rfl, by simp, by simp⟩
      | succ m ih =>
        intro hm
        obtain ⟨l, hl, hu, hj⟩ := ih (by omega)
        obtain ⟨z, z0, z1, hz⟩ := hc m (by omega)
        refine ⟨l ++ [.int .u8 z], by simp [hl], ?_, ?_⟩
        · intro u hu'
          rcases List.mem_append.1 hu' with h | h
          · exact hu u h
          · simp at h; exact ⟨z, z0, z1, h⟩
        · intro j u hj'
          rcases Nat.lt_trichotomy j m with h | h | h
          · rw [List.getElem?_append_left (by omega)] at hj'
            exact hj j u hj'
          · subst h
            rw [List.getElem?_append_right (by omega)] at hj'
            simp [hl] at hj'
            rw [hz, hj']
          · rw [List.getElem?_eq_none (by simp; omega)] at hj'
            cases hj'
    obtain ⟨l, hl, hu, hj⟩ := key n (Nat.le_refl n)
    refine ⟨l, hl, hu, .inr ⟨⟨b, o, none⟩, hA, fun j u hju => ?_⟩⟩
    rw [← hj j u hju]
    rcases Nat.eq_zero_or_pos j with h | h
    · subst h; simp [Addr.add]
    · simp [Addr.add, Nat.ne_of_gt h]
theorem isByteV.one {l : List Value} (h : ∀ u ∈ l, isByteV u) : ∀ u ∈ l, u.oneCell' = true := by
  intro u hu
  obtain ⟨z, _, _, rfl⟩ := h u hu
  rfl
/-- What an owned row of bytes is to a draw. -/
theorem Bytes.of_own {w : World} {base n cap g : Nat} {e : TypeId} {xs : List Value} (hown : w.ownsRow base e 1 (.slice (some ⟨g, 0, none⟩) n cap) n xs) (hx : ∀ u ∈ xs, isByteV u) (hg : g < w.heap.size) :
    Bytes w.heap.size w (some ⟨g, 0, none⟩) n := by
  intro _
  refine ⟨g, 0, rfl, hg, fun k hk => ?_⟩
  have hl : xs.length = n := by have := hown.1; omega
  have hc := hown.cellAt k (by omega)
  rw [List.getElem?_eq_getElem (by omega)] at hc
  obtain ⟨z, z0, z1, hz⟩ := hx _ (List.getElem_mem (by omega : k < xs.length))
  refine ⟨z, z0, z1, ?_⟩
  rw [Nat.zero_add, hc, hz]
/-- A row that is laid whole. -/
theorem own_whole (w : World) (cur : Array Value) (e : TypeId) (base cap : Nat) (hb : base ≤ w.heap.size) (hm : cap ≤ maxLen) (hs : cur.size = cap) :
    (w.alloc (.cells cur e)).ownsRow base e 1 (.slice (some ⟨w.heap.size, 0, none⟩) cap cap) cap cur.toList :=
  ⟨by simp [hs], .inr ⟨w.heap.size, cap, cur, rfl, hb, heap_alloc_new w _, Nat.le_refl _, hm, by omega, by rw [Nat.mul_one]; exact List.take_of_length_le (by simp [hs])⟩⟩
theorem below_app {B : Nat} {w w1 w2 : World} {o : Obj} {n c : Nat} (h : Below B w w1) (hB : B ≤ w1.heap.size) (hg : (w1.alloc o).grownBy w2 (Value.slice (some ⟨w1.heap.size, 0, none⟩) n c).ownBlock) : Below B w w2 :=
  (h.alloc hB o).grown hg (by simp; omega) (fun k e => by simp [Value.ownBlock] at e; omega)
theorem own_one (w : World) (x : Int) (e : TypeId) : (w.alloc (.cells #[.int .u8 x] e)).ownsRow w.heap.size e 1 (.slice (some ⟨w.heap.size, 0, none⟩) 1 1) 1 [.int .u8 x] :=
  own_whole w #[.int .u8 x] e _ 1 (Nat.le_refl _) (by unfold maxLen; omega) rfl
theorem byte_one {x : Int} (h0 : 0 ≤ x) (h1 : x ≤ 255) : ∀ u ∈ [Value.int .u8 x], isByteV u := by
  intro u hu
  simp at hu
  exact ⟨x, h0, h1, hu⟩
section
variable {P : Program} {t e : TypeId} {w : World}
theorem run_app_bytes (L : Elem P t e 1 1) (ty : TypeId) (base : Nat) (v : Value) (n : Nat) (xs : List Value) (hown : w.ownsRow base e 1 v n xs) (hn : 0 < n) (hx : ∀ u ∈ xs, isByteV u)
    (B : Nat) (A : Option Addr) (m c : Nat) (hb : Bytes B w A m) (h63 : n + m ≤ maxLen) (hbytes : n + m ≤ 140737488355328) (hbase : base ≤ w.heap.size) :
    ∃ g cap w', (Builtin.append_ #[t, t] ty #[v, .slice A m c]).run P w = .ok (.slice (some ⟨g, 0, none⟩) (n + m) cap) w' ∧ Bytes w'.heap.size w' (some ⟨g, 0, none⟩) (n + m) ∧ w.grownBy w' v.ownBlock := by
  obtain ⟨i, z, hi, hz, hz1, hz2, hz3⟩ := L.info
  obtain ⟨news, hl, hbyte, hsrc⟩ := hb.list
  have hall : ∀ u ∈ xs ++ news, isByteV u := fun u hu => (List.mem_append.1 hu).elim (hx u) (hbyte u)
  have main : ∀ a : Addr, A = some a → (∀ j u, news[j]? = some u → w.cell? (a.add j) = some u) →
      ∃ g cap w', (Builtin.append_ #[t, t] ty #[v, .slice A m c]).run P w = .ok (.slice (some ⟨g, 0, none⟩) (n + m) cap) w' ∧ Bytes w'.heap.size w' (some ⟨g, 0, none⟩) (n + m) ∧ w.grownBy w' v.ownBlock := by
    rintro a rfl hnews
    obtain ⟨v', w', hr, h2, h3, _, _⟩ := run_append_own_at (P := P) w base t ty e i z 1 1 L.ht hi hz hz1 hz2 hz3 (by omega) v n xs hown a m c news (by omega) hnews (isByteV.one hbyte) h63 (by omega) hbase
    obtain ⟨g, cap, rfl, _, hlt⟩ := h2.form (by omega)
    exact ⟨g, cap, w', hr, Bytes.of_own h2 hall hlt, h3⟩
  rcases hsrc with h0 | ⟨a, hA, hnews⟩
  · subst h0
    have hnil : news = [] := List.eq_nil_of_length_eq_zero hl
    cases A with
    | some a => exact main a rfl (by simp [hnil])
    | none =>
      obtain ⟨g, cap, rfl, hbg, hlt⟩ := hown.form hn
      have hcap : n ≤ cap := by
        rcases hown.2 with ⟨he, _⟩ | ⟨g', cap', cur, he, _, _, h, _⟩
        · cases he
        · injection he with _ _ he; omega
      refine ⟨g, cap, w, ?_, ?_, World.grownBy.refl w _⟩
      · have h := run_append_room_src (P := P) w t t ty e i L.ht hi g 0 n cap (.slice none 0 c) 0 [] (Src.ofNil w L.ht c) (by omega) (by simp) (by simp)
        exact h
      · exact Bytes.of_own hown hx hlt
  · exact main a hA hnews
/-- In a plain region. -/
theorem app_bytes (L : Elem P t e 1 1) {ops : Array Oper} {rest : List Oper} {o : Oper} {a : Act} {Q : Exit → Act → World → Prop} (hgd : o.guard = none) (s x : Operand)
    (ho : o.op = .call { callee := .builtin .append, args := #[s, x], argTypes := #[t, t] }) (base : Nat) (v : Value) (n : Nat) (xs : List Value) (hs : a.eval s = v) (hown : w.ownsRow base e 1 v n xs) (hn : 0 < n) (hx : ∀ u ∈ xs, isByteV u)
    (B : Nat) (A : Option Addr) (m c : Nat) (hxx : a.eval x = .slice A m c) (hb : Bytes B w A m) (h63 : n + m ≤ maxLen) (hbytes : n + m ≤ 140737488355328) (hbase : base ≤ w.heap.size)
    (h : ∀ g cap w', Bytes w'.heap.size w' (some ⟨g, 0, none⟩) (n + m) → w.grownBy w' v.ownBlock → wpList P ops Q rest (a.put o.dst (.slice (some ⟨g, 0, none⟩) (n + m) cap)) w') : wpList P ops Q (o :: rest) a w := by
  obtain ⟨g, cap, w', hr, h2, h3⟩ := run_app_bytes (P := P) L o.type base v n xs hown hn hx B A m c hb h63 hbytes hbase
  refine wpList_plain hgd fun _ hK => ?_
  unfold Oper.wp execOp
  simp only [ho, resolve, invoke, builtin, Sem.run_bind, Sem.run_pure, Result.andThen_ok, List.map_toArray, List.map_cons, List.map_nil, hs, hxx, hr]
  exact hK _ _ (h g cap w' h2 h3)
end
theorem Bytes.more {B B' n : Nat} {w w' : World} {A : Option Addr} (h : Bytes B w A n) (hb : Below B w w') (hB : B ≤ B') : Bytes B' w' A n := fun hn => by
  obtain ⟨b, o, e, hl, hc⟩ := h.keep (fun k hk => hb.block k hk) hn
  exact ⟨b, o, e, by omega, hc⟩
end Go.Proofs.Ytfpcjgolcbjnjaa

namespace Go.Proofs.Ytfpcjgolcbjnjaa
open Go Go.RowKit
/-- A statement: its Op, Dst, A, B, C and N. -/
structure St where
  op : Int
  d : Int
  a : Int
  b : Int
  c : Int
  n : Int
deriving DecidableEq
def isReg (x : Int) : Prop := 0 ≤ x ∧ x ≤ 7
instance (x : Int) : Decidable (isReg x) := by unfold isReg; infer_instance
/-- The statement is valid. -/
def okI (op d a b c n : Int) : Prop :=
  (op = 1 ∧ isReg d ∧ a = 0 ∧ b = 0 ∧ c = 0 ∧ 0 ≤ n ∧ n ≤ 15) ∨
  (op = 2 ∧ isReg d ∧ 0 ≤ a ∧ a ≤ 4 ∧ b = 0 ∧ c = 0 ∧ 0 ≤ n ∧ n ≤ 3) ∨
  (3 ≤ op ∧ op ≤ 9 ∧ isReg d ∧ isReg a ∧ isReg b ∧ c = 0 ∧ n = 0) ∨
  (op = 10 ∧ isReg d ∧ isReg a ∧ isReg b ∧ isReg c ∧ n = 0) ∨
  (op = 11 ∧ d = 0 ∧ isReg a ∧ b = 0 ∧ c = 0 ∧ n = 0) ∨
  (op = 12 ∧ d = 0 ∧ a = 0 ∧ b = 0 ∧ c = 0 ∧ 1 ≤ n ∧ n ≤ 8) ∨
  (op = 13 ∧ d = 0 ∧ a = 0 ∧ b = 0 ∧ c = 0 ∧ n = 0)
instance (op d a b c n : Int) : Decidable (okI op d a b c n) := by unfold okI; infer_instance
def St.ok (s : St) : Prop := okI s.op s.d s.a s.b s.c s.n
instance (s : St) : Decidable s.ok := by unfold St.ok; infer_instance
/-- The registers that a valid statement reads. -/
def readsI (op a b c : Int) : List Int :=
  if op = 10 then [a, b, c] else if op = 11 then [a] else if 3 ≤ op ∧ op ≤ 9 then [a, b] else []
def readsOf (op d a b c n : Int) : List Int := if okI op d a b c n then readsI op a b c else []
/-- The register that a valid statement sets, or -1. -/
def writesOf (op d a b c n : Int) : Int := if okI op d a b c n ∧ op ≤ 10 then d else -1
end Go.Proofs.Ytfpcjgolcbjnjaa

namespace Go.Proofs.Ytfpcjgolcbjnjaa
open Go Go.RowKit
def intVals (zs : List Int) : List Value := zs.map (Value.int .i64)
theorem intVals_length (zs : List Int) : (intVals zs).length = zs.length := by simp [intVals]
/-- A slice reads as these numbers. -/
def Ints (w : World) (A : Option Addr) (zs : List Int) : Prop :=
  0 < zs.length → ∃ b o, A = some ⟨b, o, none⟩ ∧ b < w.heap.size ∧ ∀ j, j < zs.length → w.cell? ⟨b, o + j, none⟩ = some (.int .i64 (zs.getD j 0))
theorem Ints.nil (w : World) (A : Option Addr) : Ints w A [] := fun h => absurd h (by simp)
theorem Ints.below {w w' : World} {A : Option Addr} {zs : List Int} (h : Ints w A zs) (hb : Below w.heap.size w w') : Ints w' A zs := fun h0 => by
  obtain ⟨b, o, e, hl, hc⟩ := h h0
  exact ⟨b, o, e, Nat.lt_of_lt_of_le hl hb.size, fun j hj => (hb.cell (p := ⟨b, o + j, none⟩) hl).trans (hc j hj)⟩
/-- Blocks behind B turned, and the slice lies below B. -/
def IntsB (B : Nat) (w : World) (A : Option Addr) (zs : List Int) : Prop :=
  0 < zs.length → ∃ b o, A = some ⟨b, o, none⟩ ∧ b < B ∧ ∀ j, j < zs.length → w.cell? ⟨b, o + j, none⟩ = some (.int .i64 (zs.getD j 0))
theorem Ints.bound {w : World} {A : Option Addr} {zs : List Int} (h : Ints w A zs) : IntsB w.heap.size w A zs := h
theorem IntsB.below {B : Nat} {w w' : World} {A : Option Addr} {zs : List Int} (h : IntsB B w A zs) (hb : Below B w w') : IntsB B w' A zs := fun h0 => by
  obtain ⟨b, o, e, hl, hc⟩ := h h0
  exact ⟨b, o, e, hl, fun j hj => (hb.cell (p := ⟨b, o + j, none⟩) hl).trans (hc j hj)⟩
theorem IntsB.at_ {B : Nat} {w : World} {A : Option Addr} {zs : List Int} {j : Nat} (h : IntsB B w A zs) (hj : j < zs.length) :
    ∃ b o, A = some ⟨b, o, none⟩ ∧ b < B ∧ w.cell? ⟨b, o + j, none⟩ = some (.int .i64 (zs.getD j 0)) := by
  obtain ⟨b, o, e, hl, hc⟩ := h (by omega)
  exact ⟨b, o, e, hl, hc j hj⟩
theorem Ints.at_ {w : World} {A : Option Addr} {zs : List Int} {j : Nat} (h : Ints w A zs) (hj : j < zs.length) :
    ∃ b o, A = some ⟨b, o, none⟩ ∧ b < w.heap.size ∧ w.cell? ⟨b, o + j, none⟩ = some (.int .i64 (zs.getD j 0)) := h.bound.at_ hj
theorem IntsB.ints {B : Nat} {w : World} {A : Option Addr} {zs : List Int} (h : IntsB B w A zs) (hB : B ≤ w.heap.size) : Ints w A zs := fun h0 => by
  obtain ⟨b, o, e, hl, hc⟩ := h h0
  exact ⟨b, o, e, by omega, hc⟩
theorem Ints.of_own {w : World} {base n c : Nat} {e : TypeId} {A : Option Addr} {zs : List Int} (h : w.ownsRow base e 1 (.slice A n c) n (intVals zs)) : Ints w A zs := fun h0 => by
  have hl : zs.length = n := by have := h.1; rw [intVals_length] at this; omega
  rcases h.2 with ⟨he, h1⟩ | ⟨g, cap, cur, he, hg, hh, _⟩
  · omega
  · injection he with he1 he2 he3
    subst he1 he3
    refine ⟨g, 0, rfl, (Array.getElem?_eq_some_iff.1 hh).1, fun j hj => ?_⟩
    rw [Nat.zero_add, h.cellAt j (by omega)]
    simp [intVals, List.getElem?_map, List.getElem?_eq_getElem hj]
/-- What an argument's reading says. -/
theorem Ints.of_row {w : World} {x : Addr} {len cap : Nat} {zs : List Int} (hl : len ≤ cap) (hz : zs.length = cap)
    (hcell : ∀ i, i < zs.length → w.cell? (x.add i) = some (.int .i64 (zs.getD i 0))) : Ints w (some x) (zs.take len) ∧ (zs.take len).length = len := by
  have hlen : (zs.take len).length = len := by rw [List.length_take]; omega
  refine ⟨fun h0 => ?_, hlen⟩
  rw [hlen] at h0
  obtain ⟨b, o, spot⟩ := x
  have h00 := hcell 0 (by omega)
  have hs : spot = none := by simpa [Addr.add] using World.cell?_spot h00
  subst hs
  refine ⟨b, o, rfl, ?_, fun k hk => ?_⟩
  · have := World.block_lt_of_cell? w _ h00
    simpa [Addr.add] using this
  · rw [hlen] at hk
    have hc := hcell k (by omega)
    rw [List.getD_eq_getElem?_getD, List.getElem?_take_of_lt hk, ← List.getD_eq_getElem?_getD, ← hc]
    rcases Nat.eq_zero_or_pos k with h | h
    · subst h; simp [Addr.add]
    · simp [Addr.add, Nat.ne_of_gt h]
theorem elemInt : Elem Try.prog 25 3 1 8 := ⟨Try.underlying25, by
  obtain ⟨i, hi, hz, h1, h2⟩ := info_parts (show (Try.prog.info? 3).map (fun i => (i.zero, i.size, i.bytes)) = some (some (.int .i64 0), 1, 8) by kernel_rfl)
  exact ⟨i, _, hi, hz, h1, h2, rfl⟩, by omega⟩
theorem infoInt : ∃ i, Try.prog.info? 3 = some i ∧ i.zero = some (.int .i64 0) ∧ i.size = 1 ∧ i.bytes = 8 := by
  obtain ⟨i, hi, hz, h1, h2⟩ := info_parts (show (Try.prog.info? 3).map (fun i => (i.zero, i.size, i.bytes)) = some (some (.int .i64 0), 1, 8) by kernel_rfl)
  exact ⟨i, hi, hz, h1, h2⟩
theorem make_fullI {P : Program} {t e : TypeId} {bytes : Nat} {z : Value} {w : World} (ht : P.underlying t = some (.slice e)) (hinfo : ∃ i, P.info? e = some i ∧ i.zero = some z ∧ i.size = 1 ∧ i.bytes = bytes) (hz : z.cells = #[z]) {ops : Array Oper} {rest : List Oper} {o : Oper} {a : Act} {Q : Exit → Act → World → Prop} (hgd : o.guard = none) (l c : Operand)
    (ho : o.op = Op.makeSlice t l c) (base : Nat) (kl kc : IntKind) (L C : Int) (n : Nat) (hl : a.eval l = .int kl L) (hc : a.eval c = .int kc C) (hL : L = (n : Int)) (hC : C = (n : Int)) (b2 : bytes * n ≤ 281474976710656) (b3 : n ≤ maxLen) (b4 : base ≤ w.heap.size)
    (h : ∀ w', w'.ownsRow base e 1 (.slice (some ⟨w.heap.size, 0, none⟩) n n) n (List.replicate n z) → w.grownBy w' none → wpList P ops Q rest (a.put o.dst (.slice (some ⟨w.heap.size, 0, none⟩) n n)) w') :
    wpList P ops Q (o :: rest) a w := by
  obtain ⟨i, hi, hz0, hz1, hz2⟩ := hinfo
  refine wpList_make_full w hgd l c t ho base e i z 1 ht hi hz0 hz1 kl kc L C n hl hc hL hC (by rw [hz2]; exact b2) b3 b4 fun w' r1 r2 => h w' ?_ r2
  rw [hz, Nat.mul_one, toList_madeCells_one] at r1
  exact r1
/-- The first k numbers copied, the rest still zero. -/
def partVals (zs : List Int) (n k : Nat) : List Value := intVals (zs.take k) ++ List.replicate (n - k) (Value.int .i64 0)
theorem partVals_zero (zs : List Int) (n : Nat) : partVals zs n 0 = List.replicate n (Value.int .i64 0) := by simp [partVals, intVals]
theorem partVals_all {zs : List Int} {n : Nat} (h : zs.length = n) : partVals zs n n = intVals zs := by
  subst h; simp [partVals]
theorem partVals_set {zs : List Int} {n k : Nat} (h : zs.length = n) (hk : k < n) : (partVals zs n k).set k (.int .i64 (zs.getD k 0)) = partVals zs n (k + 1) := by
  unfold partVals
  have hl : (intVals (zs.take k)).length = k := by rw [intVals_length, List.length_take]; omega
  rw [List.set_append_right _ _ (by omega), hl, Nat.sub_self, show n - k = (n - (k + 1)) + 1 by omega, List.replicate_succ, List.set_cons_zero]
  have e : zs.take (k + 1) = zs.take k ++ [zs.getD k 0] := by
    rw [List.take_add_one, List.getD_eq_getElem?_getD, List.getElem?_eq_getElem (by omega)]
    rfl
  rw [e]
  simp [intVals]
theorem partVals_at {zs : List Int} {n k : Nat} (h : zs.length = n) (hk : k < n) : (partVals zs n k)[k]? = some (.int .i64 0) := by
  unfold partVals
  have hl : (intVals (zs.take k)).length = k := by rw [intVals_length, List.length_take]; omega
  rw [List.getElem?_append_right (by omega), hl, Nat.sub_self, List.getElem?_replicate_of_lt (by omega)]
theorem toIntS_any (A : Option Addr) (n c : Nat) (zs : List Int) (w : World) (hr : Ints w A zs) (hl : zs.length = n) (hn : n ≤ 2000000) :
    Calls Try.prog 39 #[.slice A n c] w fun e w' => ∃ g, e = .returned (.slice (some ⟨g, 0, none⟩) n n) ∧ w'.ownsRow w.heap.size 3 1 (.slice (some ⟨g, 0, none⟩) n n) n (intVals zs) ∧ Below w.heap.size w w' := by
  go_enter Try.func39, Try.ntmps39
  go_wp2_with (first | (refine make_fullI Try.underlying25 infoInt rfl rfl _ _ rfl w.heap.size _ _ _ _ n rfl rfl rfl rfl (by omega) (by unfold maxLen; omega) (Nat.le_refl _) ?_))
  intro w1 hown1 hg1
  have hb1 : Below w.heap.size w w1 := (Below.refl _ _).grown hg1 (Nat.le_refl _) (fun k h => by cases h)
  have Hown1 := Lib.hid hown1
  clear hown1 hg1
  go_wp2_with fail
  go_loopw [4] (fun i wr => ∃ k : Nat, k ≤ n ∧ i = .int .i64 k ∧ wr.ownsRow w.heap.size 3 1 (.slice (some ⟨w.heap.size, 0, none⟩) n n) n (partVals zs n k) ∧ Below w.heap.size w wr) (fun i _ => n - (intOf i).toNat)
  case atStart => exact ⟨0, Nat.zero_le _, rfl, by rw [partVals_zero]; exact Hown1.out, hb1⟩
  case round =>
    obtain ⟨k, hk, rfl, hown, hb⟩ := hrel
    by_cases hlt : k < n
    · obtain ⟨b, o, rfl, hbl, hc⟩ := (hr.bound.below hb).at_ (j := k) (by omega)
      have hcell : wr.cell? ⟨w.heap.size, k, none⟩ = some (Value.int .i64 0) := by
        rw [hown.cellAt k (by omega)]; exact partVals_at hl hlt
      have hfr := hown.frozenAt k
      generalize hx : zs.getD k 0 = x at hc
      have hst := (hown.stored k (Value.int .i64 x)).1
      rw [← hx, partVals_set hl hlt, hx] at hst
      clear hx
      have hb2 : Below w.heap.size w (wr.setCell ⟨w.heap.size, k, none⟩ (Value.int .i64 x)) := hb.setCell (Nat.le_refl _) _
      have Hst := Lib.hid hst
      have Hb2 := Lib.hid hb2
      have hk0 : (0 : Int) ≤ k := by omega
      have hk1 : (k : Int) < n := by omega
      clear hown hst hb2 hr Hown1
      go_wp2_with fail
      go_roundw
      case rel => exact ⟨k + 1, by omega, by go_num, Hst.out, Hb2.out⟩
      case measure => simp [intOf]; omega
    · obtain rfl : k = n := by omega
      rw [partVals_all hl] at hown
      go_wp2_with fail
      go_ret
      exact ⟨_, rfl, hown, hb⟩
theorem eqIntS_any (n c1 m c2 : Nat) (A B : Option Addr) (xs ys : List Int) (w : World) (ha : Ints w A xs) (hb : Ints w B ys) (hl : xs.length = n) (hm : ys.length = m) (hn : n ≤ 1000000000000) :
    Calls Try.prog 40 #[.slice A n c1, .slice B m c2] w fun e w' => e = .returned (.bool (decide (xs = ys))) ∧ Below w.heap.size w w' := by
  by_cases hnm : n = m
  · subst hnm
    have Hl := Lib.hid hl
    have Hm := Lib.hid hm
    clear hl hm
    go_enter Try.func40, Try.ntmps40
    go_wp2_with fail
    go_loopw [5] (fun i wr => ∃ j : Nat, j ≤ n ∧ i = .int .i64 j ∧ Hid (∀ k, k < j → xs.getD k 0 = ys.getD k 0) ∧ Below w.heap.size w wr) (fun i _ => n - (intOf i).toNat)
    case atStart => exact ⟨0, Nat.zero_le _, rfl, fun k hk => by omega, Below.refl _ _⟩
    case round =>
      obtain ⟨j, hj, rfl, he, hbr⟩ := hrel
      by_cases hlt : j < n
      · obtain ⟨b, o, rfl, hbl, hc⟩ := (ha.bound.below hbr).at_ (j := j) (by rw [Hl.out]; exact hlt)
        obtain ⟨b', o', rfl, hbl', hc'⟩ := (hb.bound.below hbr).at_ (j := j) (by rw [Hm.out]; exact hlt)
        generalize hx : xs.getD j 0 = x at hc
        generalize hy : ys.getD j 0 = y at hc'
        have Hx := Lib.hid hx
        have Hy := Lib.hid hy
        have hj0 : (0 : Int) ≤ j := by omega
        have hj1 : (j : Int) < n := by omega
        clear ha hb hx hy
        by_cases hxy : x = y
        · subst hxy
          have Hnext : Hid (∀ k, k < j + 1 → xs.getD k 0 = ys.getD k 0) := fun k hk => by
            rcases Nat.lt_or_ge k j with h | h
            · exact he.out k h
            · obtain rfl : k = j := by omega
              rw [Hx.out, Hy.out]
          go_wp2_with fail
          go_quiet (fail)
          go_wp2_with fail
          go_roundw
          case rel => exact ⟨j + 1, by omega, by go_num, Hnext, below_drewN hbr _⟩
          case measure => simp [intOf]; omega
        · have hne : (x == y) = false := beq_eq_false_iff_ne.2 hxy
          have Hd : Hid (decide (xs = ys) = false) := decide_eq_false fun e => hxy (by rw [← Hx.out, ← Hy.out, e])
          go_wp2_with fail
          go_quiet (fail)
          go_wp2_with fail
          go_ret
          exact ⟨ret_bool Hd.out.symm, below_drewN hbr _⟩
      · obtain rfl : j = n := by omega
        have Hd : Hid (decide (xs = ys) = true) := decide_eq_true (by
          refine List.ext_getElem (by rw [Hl.out, Hm.out]) fun k h1 h2 => ?_
          have h := he.out k (by rw [← Hl.out]; exact h1)
          rwa [List.getD_eq_getElem?_getD, List.getElem?_eq_getElem h1, List.getD_eq_getElem?_getD, List.getElem?_eq_getElem h2] at h)
        go_wp2_with fail
        go_ret
        exact ⟨ret_bool Hd.out.symm, hbr⟩
  · have Hd : Hid (decide (xs = ys) = false) := decide_eq_false fun e => hnm (by rw [← hl, ← hm, e])
    have hne : ((n : Int) == (m : Int)) = false := beq_eq_false_iff_ne.2 (by omega)
    clear hl hm
    go_enter Try.func40, Try.ntmps40
    go_wp2_with fail
    go_ret
    exact ⟨ret_bool Hd.out.symm, Below.refl _ _⟩
end Go.Proofs.Ytfpcjgolcbjnjaa

namespace Go.Proofs.Ytfpcjgolcbjnjaa
open Go Go.RowKit
def markInts (k n : Nat) : List Int := (List.range n).map fun j => ((k + j : Nat) : Int)
theorem markInts_length (k n : Nat) : (markInts k n).length = n := by simp [markInts]
theorem markInts_at {k n j : Nat} (h : j < n) : (markInts k n).getD j 0 = ((k + j : Nat) : Int) := by simp [markInts, List.getD_eq_getElem?_getD, h]
theorem markInts_of {ys : List Value} {k n : Nat} (hl : ys.length = n) (h : ∀ j, j < n → ys[j]? = some (.int .i64 ((k + j : Nat) : Int))) : ys = intVals (markInts k n) := by
  apply List.ext_getElem?
  intro j
  rcases Nat.lt_or_ge j n with hj | hj
  · rw [h j hj]; simp [intVals, markInts, hj]
  · rw [List.getElem?_eq_none (by omega), List.getElem?_eq_none (by simp [intVals, markInts]; omega)]
theorem markInts_set {ys : List Value} {k n i : Nat} {u : Value} (hl : ys.length = n) (h : ∀ j, j < i → ys[j]? = some (.int .i64 ((k + j : Nat) : Int))) (hi : i < n) (hu : u = .int .i64 ((k + i : Nat) : Int)) :
    ∀ j, j < i + 1 → (ys.set i u)[j]? = some (.int .i64 ((k + j : Nat) : Int)) := by
  intro j hj
  rcases Nat.lt_or_ge j i with h' | h'
  · rw [List.getElem?_set_ne (by omega)]; exact h j h'
  · obtain rfl : j = i := by omega
    rw [List.getElem?_set_self (by omega), hu]
theorem markIntS_any (base n k : Nat) (v : Value) (xs : List Value) (w : World) (hown : w.ownsRow base 3 1 v n xs) (hn : n + k ≤ 1000000000) :
    Calls Try.prog 41 #[v, .int .i64 (k : Int)] w fun e w' => e = .returned (.int .i64 ((k + n : Nat) : Int)) ∧ w'.ownsRow base 3 1 v n (intVals (markInts k n)) ∧ Below base w w' := by
  obtain ⟨A, m, cp, rfl, rfl⟩ := ownsRow_slice hown
  go_enter Try.func41, Try.ntmps41
  go_wp2_with fail
  go_loopw [1, 5] (fun a i wr => ∃ (j : Nat) (ys : List Value), j ≤ n ∧ a = .int .i64 ((k + j : Nat) : Int) ∧ i = .int .i64 j ∧ wr.ownsRow base 3 1 (.slice A n cp) n ys ∧ Hid (∀ i, i < j → ys[i]? = some (.int .i64 ((k + i : Nat) : Int))) ∧ Below base w wr) (fun _ i _ => n - (intOf i).toNat)
  case atStart => exact ⟨0, xs, Nat.zero_le _, rfl, rfl, hown, fun i hi => by omega, Below.refl _ _⟩
  case round =>
    obtain ⟨j, ys, hj, rfl, rfl, hown, hys, hbr⟩ := hrel
    have hyl : ys.length = n := by have := hown.1; omega
    by_cases hlt : j < n
    · obtain ⟨g, rfl, hg, hgl⟩ := own_addr hown (by omega)
      obtain ⟨u0, hu0⟩ : ∃ u, ys[j]? = some u := ⟨_, List.getElem?_eq_getElem (by omega)⟩
      have hc : wr.cell? ⟨g, j, none⟩ = some u0 := by rw [hown.cellAt j (by omega)]; exact hu0
      clear hu0
      have hf := hown.frozenAt j
      have hst := hown.stored j (.int .i64 ((k + j : Nat) : Int))
      have hb2 : Below base w (wr.setCell ⟨g, j, none⟩ (.int .i64 ((k + j : Nat) : Int))) := hbr.setCell hg _
      have Hys := Lib.hid (markInts_set hyl hys.out hlt rfl)
      have Hst := Lib.hid hst.1
      have Hb2 := Lib.hid hb2
      have hj0 : (0 : Int) ≤ j := by omega
      have hj1 : (j : Int) < n := by omega
      clear hst hb2 hown hyl hys
      go_wp2_with fail
      go_roundw
      case rel => exact ⟨j + 1, _, by omega, by go_num, by go_num, Hst.out, Hys.out, Hb2.out⟩
      case measure => simp [intOf]; omega
    · obtain rfl : j = n := by omega
      have hm := markInts_of hyl hys.out
      subst hm
      have Hown := Lib.hid hown
      clear hown hyl
      go_wp2_with fail
      go_ret
      exact ⟨by first | rfl | simp, Hown.out, hbr⟩
theorem heldIntS_any (n k cp : Nat) (A : Option Addr) (w : World) (hr : Ints w A (markInts k n)) (hn : n + k ≤ 1000000000) :
    Calls Try.prog 42 #[.slice A n cp, .int .i64 (k : Int)] w fun e w' => e = .returned (.int .i64 ((k + n : Nat) : Int)) ∧ w = w' := by
  go_enter Try.func42, Try.ntmps42
  go_wp2_with fail
  go_loop [1, 5] (fun a i => ∃ j : Nat, j ≤ n ∧ a = .int .i64 ((k + j : Nat) : Int) ∧ i = .int .i64 j) (fun _ i => n - (intOf i).toNat)
  case atStart => exact ⟨0, Nat.zero_le _, rfl, rfl⟩
  case round =>
    obtain ⟨j, hj, rfl, rfl⟩ := hrel
    by_cases hlt : j < n
    · obtain ⟨b, o, rfl, hbl, hc⟩ := hr.at_ (j := j) (by rw [markInts_length]; exact hlt)
      rw [markInts_at hlt] at hc
      have hj0 : (0 : Int) ≤ j := by omega
      have hj1 : (j : Int) < n := by omega
      clear hr
      go_wp2_with fail
      go_round
      case rel => exact ⟨j + 1, by omega, by go_num, by go_num⟩
      case measure => simp [intOf]; omega
    · obtain rfl : j = n := by omega
      go_wp2_with fail
      go_ret
      exact ⟨by first | rfl | simp, rfl⟩
end Go.Proofs.Ytfpcjgolcbjnjaa

namespace Go.Proofs.Ytfpcjgolcbjnjaa
open Go Go.RowKit
/-- Of the blocks that there were, only blocks from lo on, and below hi, may have turned. -/
structure Mid (lo hi : Nat) (w w' : World) : Prop where
  os : w'.os = w.os
  tape : w'.tape = w.tape
  output : w'.output = w.output
  size : w.heap.size ≤ w'.heap.size
  block : ∀ k, k < w.heap.size → (k < lo ∨ hi ≤ k) → w'.heap[k]? = w.heap[k]?
section
variable {w w' w1 w2 : World} {lo hi lo' hi' B : Nat}
theorem Mid.refl (lo hi : Nat) (w : World) : Mid lo hi w w := ⟨rfl, rfl, rfl, Nat.le_refl _, fun _ _ _ => rfl⟩
theorem Mid.trans (h : Mid lo hi w w1) (k : Mid lo hi w1 w2) : Mid lo hi w w2 :=
  ⟨k.os.trans h.os, k.tape.trans h.tape, k.output.trans h.output, Nat.le_trans h.size k.size, fun i hi' hd => (k.block i (Nat.lt_of_lt_of_le hi' h.size) hd).trans (h.block i hi' hd)⟩
theorem Mid.wide (h : Mid lo hi w w1) (h1 : lo' ≤ lo) (h2 : hi ≤ hi') : Mid lo' hi' w w1 := ⟨h.os, h.tape, h.output, h.size, fun k hk hd => h.block k hk (by omega)⟩
theorem Mid.of_below (h : Below w.heap.size w w1) (lo hi : Nat) : Mid lo hi w w1 := ⟨h.os, h.tape, h.output, h.size, fun k hk _ => h.block k hk⟩
theorem Mid.of_grown {row : Option Nat} (h : w.grownBy w1 row) (hr : ∀ k, row = some k → lo ≤ k ∧ k < hi) : Mid lo hi w w1 :=
  ⟨h.os, h.tape, h.output, h.size, fun k hk hd => h.block k hk fun e => by have := hr k e.symm; omega⟩
theorem Mid.low (h : Mid lo hi w w1) (hB : B ≤ lo) (hs : B ≤ w.heap.size) : Below B w w1 := ⟨h.os, h.tape, h.output, h.size, fun k hk => h.block k (by omega) (.inl (by omega))⟩
theorem Mid.below (h : Mid lo hi w1 w2) (hb : Below B w w1) (hB : B ≤ lo) (hs : B ≤ w1.heap.size) : Below B w w2 := hb.trans (h.low hB hs)
theorem Mid.drew (h : Mid lo hi w w1) : Mid lo hi w w1.drew := ⟨h.os, h.tape, h.output, h.size, h.block⟩
theorem Mid.heap (h : Mid lo hi w w1) {g : Nat} {o : Obj} (hg : w.heap[g]? = some o) (hd : g < lo ∨ hi ≤ g) : w1.heap[g]? = some o :=
  (h.block g (Array.getElem?_eq_some_iff.1 hg).1 hd).trans hg
theorem Mid.cell (h : Mid lo hi w w1) {p : Addr} {v : Value} (hp : w.cell? p = some v) (hd : p.block < lo ∨ hi ≤ p.block) : w1.cell? p = some v :=
  (World.cell?_of_block (h.block p.block (World.block_lt_of_cell? w p hp) hd)).trans hp
/-- A slice that came in: its numbers stay. -/
theorem IntsB.mid {A : Option Addr} {zs : List Int} (h : IntsB B w A zs) (m : Mid lo hi w w1) (hB : B ≤ lo) (hs : B ≤ w.heap.size) : IntsB B w1 A zs := h.below (m.low hB hs)
theorem IntsB.more {A : Option Addr} {zs : List Int} (h : IntsB B w A zs) (hB : B ≤ hi) : IntsB hi w A zs := fun h0 => by
  obtain ⟨b, o, e, hl, hc⟩ := h h0
  exact ⟨b, o, e, by omega, hc⟩
end
/-- A slice of ints of the call's own, in a block from lo on and below hi. -/
structure OwnI (lo hi : Nat) (w : World) (v : Value) (n : Nat) (zs : List Int) : Prop where
  own : w.ownsRow lo 3 1 v n (intVals zs)
  top : ∀ k, v.ownBlock = some k → k < hi
/-- Two slices in different blocks. -/
def apart (u v : Value) : Prop := ∀ k, u.ownBlock = some k → v.ownBlock ≠ some k
section
variable {w w' w1 w2 : World} {lo hi lo' hi' B n m : Nat} {u v : Value} {zs ys : List Int}
theorem OwnI.len (h : OwnI lo hi w v n zs) : zs.length = n := by have := h.own.1; rw [intVals_length] at this; omega
theorem OwnI.form (h : OwnI lo hi w v n zs) : ∃ (A : Option Addr) (c : Nat), v = .slice A n c := by
  obtain ⟨A, m, c, e, rfl⟩ := ownsRow_slice h.own
  exact ⟨A, c, e⟩
theorem OwnI.nil (lo hi : Nat) (w : World) : OwnI lo hi w (.slice none 0 0) 0 [] := ⟨World.ownsRow_nil w lo _ 1, fun k h => by simp [Value.ownBlock] at h⟩
theorem OwnI.mid (h : OwnI lo hi w v n zs) (k : Mid lo' hi' w w1) (hd : hi ≤ lo' ∨ hi' ≤ lo) : OwnI lo hi w1 v n zs := by
  refine ⟨⟨h.own.1, ?_⟩, h.top⟩
  rcases h.own.2 with e | ⟨g, cap, cur, e, hg, hh, r⟩
  · exact .inl e
  · exact .inr ⟨g, cap, cur, e, hg, k.heap hh (by have := h.top g (by rw [e]; rfl); omega), r⟩
theorem OwnI.below (h : OwnI lo hi w v n zs) (hb : Below w.heap.size w w1) : OwnI lo hi w1 v n zs := ⟨own_below h.own hb, h.top⟩
theorem OwnI.alloc (h : OwnI lo hi w v n zs) (o : Obj) : OwnI lo hi (w.alloc o) v n zs := h.below ((Below.refl _ _).alloc (Nat.le_refl _) _)
theorem OwnI.drew (h : OwnI lo hi w v n zs) : OwnI lo hi w.drew v n zs := ⟨h.own, h.top⟩
theorem OwnI.wide (h : OwnI lo hi w v n zs) (h1 : lo' ≤ lo) (h2 : hi ≤ hi') : OwnI lo' hi' w v n zs := ⟨own_mono h.own h1, fun k e => Nat.lt_of_lt_of_le (h.top k e) h2⟩
theorem OwnI.of_own (h : w.ownsRow lo 3 1 v n (intVals zs)) : OwnI lo w.heap.size w v n zs := ⟨h, fun k e => (h.lt k e).2⟩
theorem OwnI.keep (h : OwnI lo hi w v n zs) (hg : w.grownBy w1 u.ownBlock) (ha : apart v u) : OwnI lo hi w1 v n zs :=
  ⟨h.own.kept hg (by
    rcases hv : v.ownBlock with _ | k
    · exact .inl rfl
    · exact .inr (fun e => ha k hv e.symm)), h.top⟩
theorem OwnI.ints {A : Option Addr} {c : Nat} (h : OwnI lo hi w (.slice A n c) n zs) : Ints w A zs := Ints.of_own h.own
theorem OwnI.intsB {A : Option Addr} {c : Nat} (h : OwnI lo hi w (.slice A n c) n zs) : IntsB hi w A zs := fun h0 => by
  obtain ⟨b, o, e, hl, hc⟩ := h.ints h0
  exact ⟨b, o, e, h.top b (by rw [e]; rfl), hc⟩
theorem OwnI.ltB (h : OwnI lo hi w v n zs) (hg : v.ownBlock = some B) : lo ≤ B ∧ B < hi := ⟨(h.own.lt B hg).1, h.top B hg⟩
theorem apart.symm (h : apart u v) : apart v u := fun k e e' => h k e' e
theorem apart.nil (v : Value) (n c : Nat) : apart (.slice none n c) v := fun k e => by simp [Value.ownBlock] at e
/-- Slices from two ranges of blocks. -/
theorem OwnI.apart_of (h : OwnI lo hi w v n zs) (k : OwnI lo' hi' w1 u m ys) (hd : hi ≤ lo') : apart v u := fun g e e' => by
  have := h.top g e
  have := (k.own.lt g e').1
  omega
/-- What append gave is apart from what was apart from its source and was there. -/
theorem apart_app {g H cap k : Nat} (ha : apart u v) (hl : ∀ k, v.ownBlock = some k → k < H) (hat : u.ownBlock = some g ∨ g = H) : apart (.slice (some ⟨g, 0, none⟩) k cap) v := by
  intro b e e'
  have : g = b := by simpa [Value.ownBlock] using e
  subst this
  rcases hat with h | h
  · exact ha g h e'
  · have := hl g e'; omega
theorem apart_app' {v' : Value} {H : Nat} (ha : apart u v) (hl : ∀ k, v.ownBlock = some k → k < H) (hat : v'.ownBlock = u.ownBlock ∨ v'.ownBlock = some H) : apart v' v := by
  intro b e e'
  rcases hat with h | h
  · exact ha b (by rw [← h]; exact e) e'
  · have : b = H := by rw [h] at e; injection e with e; exact e.symm
    have := hl b e'
    omega
end
/-- append of a slice of ints (nil, empty or not) behind a row of the call's own. -/
theorem run_app_ints {P : Program} {t e : TypeId} {w : World} (L : Elem P t e 1 8) (ty : TypeId) (base : Nat) (v : Value) (n : Nat) (xs : List Value) (hown : w.ownsRow base e 1 v n xs)
    (A : Option Addr) (m c : Nat) (zs : List Int) (hz : Ints w A zs) (hl : zs.length = m) (h63 : n + m ≤ maxLen) (hbytes : (n + m) * 8 ≤ 140737488355328) (hbase : base ≤ w.heap.size) :
    ∃ v' w', (Builtin.append_ #[t, t] ty #[v, .slice A m c]).run P w = .ok v' w' ∧ w'.ownsRow base e 1 v' (n + m) (xs ++ intVals zs) ∧ w.grownBy w' v.ownBlock ∧ (v'.ownBlock = v.ownBlock ∨ v'.ownBlock = some w.heap.size) := by
  obtain ⟨i, z, hi, hzz, hz1, hz2, hz3⟩ := L.info
  have main : ∀ a : Addr, A = some a → (∀ j u, (intVals zs)[j]? = some u → w.cell? (a.add j) = some u) →
      ∃ v' w', (Builtin.append_ #[t, t] ty #[v, .slice A m c]).run P w = .ok v' w' ∧ w'.ownsRow base e 1 v' (n + m) (xs ++ intVals zs) ∧ w.grownBy w' v.ownBlock ∧ (v'.ownBlock = v.ownBlock ∨ v'.ownBlock = some w.heap.size) := by
    rintro a rfl hnews
    obtain ⟨v', w', hr, h2, h3, _, h5⟩ := run_append_own_at (P := P) w base t ty e i z 1 8 L.ht hi hzz hz1 hz2 hz3 (by omega) v n xs hown a m c (intVals zs) (by rw [intVals_length]; omega) hnews (oneCell_i64 zs) h63 hbytes hbase
    exact ⟨v', w', hr, h2, h3, h5⟩
  rcases Nat.eq_zero_or_pos m with h0 | hp
  · subst h0
    have hnil : zs = [] := List.eq_nil_of_length_eq_zero hl
    subst hnil
    cases A with
    | some a => exact main a rfl (by simp [intVals])
    | none =>
      refine ⟨v, w, ?_, by simpa [intVals] using hown, World.grownBy.refl w _, .inl rfl⟩
      rcases hown.2 with ⟨rfl, rfl⟩ | ⟨g, cap, cur, rfl, _, _, hnc, _⟩
      · simp [Builtin.append_, run_underlying L.ht, sizeOf, typeInfo, hi, Builtin.lenOf, Builtin.firstCells]
      · simp [Builtin.append_, run_underlying L.ht, sizeOf, typeInfo, hi, Builtin.lenOf, Builtin.firstCells, hnc, storeCells]
  · obtain ⟨b, o, hA, _, hc⟩ := hz (by omega)
    refine main ⟨b, o, none⟩ hA fun j u hu => ?_
    have hj : j < zs.length := by
      rcases Nat.lt_or_ge j zs.length with h | h
      · exact h
      · rw [List.getElem?_eq_none (by rw [intVals_length]; exact h)] at hu; cases hu
    have hadd : (⟨b, o, none⟩ : Addr).add j = ⟨b, o + j, none⟩ := by
      rcases Nat.eq_zero_or_pos j with h | h
      · subst h; simp [Addr.add]
      · simp [Addr.add, Nat.ne_of_gt h]
    rw [hadd, hc j hj, ← hu]
    simp [intVals, List.getD_eq_getElem?_getD, List.getElem?_eq_getElem hj]
/-- The same in a plain region. -/
theorem app_ints {P : Program} {t e : TypeId} {w : World} (L : Elem P t e 1 8) {ops : Array Oper} {rest : List Oper} {o : Oper} {a : Act} {Q : Exit → Act → World → Prop} (hgd : o.guard = none) (s x : Operand)
    (ho : o.op = .call { callee := .builtin .append, args := #[s, x], argTypes := #[t, t] }) (base : Nat) (v : Value) (n : Nat) (xs : List Value) (hs : a.eval s = v) (hown : w.ownsRow base e 1 v n xs)
    (A : Option Addr) (m c : Nat) (zs : List Int) (hxx : a.eval x = .slice A m c) (hz : Ints w A zs) (hl : zs.length = m) (h63 : n + m ≤ maxLen) (hbytes : (n + m) * 8 ≤ 140737488355328) (hbase : base ≤ w.heap.size)
    (h : ∀ v' w', w'.ownsRow base e 1 v' (n + m) (xs ++ intVals zs) → w.grownBy w' v.ownBlock → (v'.ownBlock = v.ownBlock ∨ v'.ownBlock = some w.heap.size) → wpList P ops Q rest (a.put o.dst v') w') : wpList P ops Q (o :: rest) a w := by
  obtain ⟨v', w', hr, h2, h3, h4⟩ := run_app_ints (P := P) L o.type base v n xs hown A m c zs hz hl h63 hbytes hbase
  refine wpList_plain hgd fun _ hK => ?_
  unfold Oper.wp execOp
  simp only [ho, resolve, invoke, builtin, Sem.run_bind, Sem.run_pure, Result.andThen_ok, List.map_toArray, List.map_cons, List.map_nil, hs, hxx, hr]
  exact hK _ _ (h v' w' h2 h3 h4)
/-- A block of cells that is known whole. -/
theorem box3 {w : World} {g : Nat} {T : TypeId} {x y z : Value} (h : w.heap[g]? = some (.cells #[x, y, z] T (0, 0))) :
    (w.cell? ⟨g, 0, none⟩ = some x ∧ w.cell? ⟨g, 1, none⟩ = some y ∧ w.cell? ⟨g, 2, none⟩ = some z) ∧ (w.frozen? ⟨g, 0, none⟩ = false ∧ w.frozen? ⟨g, 1, none⟩ = false ∧ w.frozen? ⟨g, 2, none⟩ = false) :=
  ⟨⟨by simp [World.cell?, h], by simp [World.cell?, h], by simp [World.cell?, h]⟩, ⟨by simp [World.frozen?, h], by simp [World.frozen?, h], by simp [World.frozen?, h]⟩⟩
theorem heap_below {w w' : World} {g : Nat} {o : Obj} (h : w.heap[g]? = some o) (hb : Below w.heap.size w w') : w'.heap[g]? = some o :=
  (hb.block _ (Array.getElem?_eq_some_iff.1 h).1).trans h
theorem heap_lt {w : World} {g : Nat} {o : Obj} (h : w.heap[g]? = some o) : g < w.heap.size := (Array.getElem?_eq_some_iff.1 h).1
theorem heap_alloc {w : World} {g : Nat} {o : Obj} (h : w.heap[g]? = some o) (o' : Obj) : (w.alloc o').heap[g]? = some o := (Below.heap_alloc w o' g (heap_lt h)).trans h
theorem heap_grown {w w' : World} {g : Nat} {o : Obj} {row : Option Nat} (h : w.heap[g]? = some o) (hb : w.grownBy w' row) (hr : row ≠ some g) : w'.heap[g]? = some o :=
  (hb.block g (heap_lt h) (fun e => hr e.symm)).trans h
theorem heap_far {w : World} {g : Nat} {o : Obj} (h : w.heap[g]? = some o) {p : Addr} (hp : g ≠ p.block) (u : Value) : (w.setCell p u).heap[g]? = some o := (Below.heap_setCell w p u g hp).trans h
theorem OwnI.setFar {w : World} {lo hi n g i : Nat} {v : Value} {zs : List Int} (h : OwnI lo hi w v n zs) (hg : g < lo) (u : Value) : OwnI lo hi (w.setCell ⟨g, i, none⟩ u) v n zs := ⟨ownsRow_setCell_below h.own (a := ⟨g, i, none⟩) hg u, h.top⟩
theorem OwnI.setFar' {w : World} {lo hi n g i : Nat} {v : Value} {zs : List Int} (h : OwnI lo hi w v n zs) (hg : hi ≤ g) (u : Value) : OwnI lo hi (w.setCell ⟨g, i, none⟩ u) v n zs := by
  refine ⟨⟨h.own.1, ?_⟩, h.top⟩
  rcases h.own.2 with e | ⟨g', cap, cur, e, hg', hh, r⟩
  · exact .inl e
  · exact .inr ⟨g', cap, cur, e, hg', by rw [Below.heap_setCell _ _ _ _ (by have := h.top g' (by rw [e]; rfl); simp; omega)]; exact hh, r⟩
/-- Results of a struct and a number, a bool or a slice. -/
theorem results_cell_tmp_row {P : Program} {fn : Func} {t p : Tmp} {ty : TypeId} (h : fn.results = #[.cell p ty, .tmp t]) (tmps : Array Value) (w : World) (x : Value) (g : Nat) (T : TypeId) (cs : Array Value) (fr : Nat × Nat) (d : TypeDesc)
    (hx : tmps.getD t undef = x) (hp : tmps.getD p undef = .pointer (some ⟨g, 0, none⟩)) (hg : w.heap[g]? = some (.cells cs T fr))
    (hu : P.underlying ty = some d) (hd : (match d with | .struct _ | .array _ _ => true | _ => false) = true) (hi : (P.info? ty).map (·.size) = some cs.size) :
    (results fn tmps).run P w = .ok (.tuple #[.agg cs, x]) w := by
  have hp' : tmps[p]?.getD undef = .pointer (some ⟨g, 0, none⟩) := by simpa using hp
  have hx' : tmps[t]?.getD undef = x := by simpa using hx
  simp [results, h, hp', hx', asAddr, run_loadVar_row w g T ty cs fr d hg hu hd hi]
/-- Marking turns the slice's own block alone. -/
theorem markIntS_own (lo hi n k : Nat) (v : Value) (zs : List Int) (w : World) (h : OwnI lo hi w v n zs) (hn : n + k ≤ 1000000000) :
    Calls Try.prog 41 #[v, .int .i64 (k : Int)] w fun e w' => e = .returned (.int .i64 ((k + n : Nat) : Int)) ∧ OwnI lo hi w' v n (markInts k n) ∧ w.grownBy w' v.ownBlock := by
  have hown := h.own
  have htop := Lib.hid h.top
  clear h
  obtain ⟨A, m, cp, rfl, rfl⟩ := ownsRow_slice hown
  go_enter Try.func41, Try.ntmps41
  go_wp2_with fail
  go_loopw [1, 5] (fun a i wr => ∃ (j : Nat) (ys : List Value), j ≤ n ∧ a = .int .i64 ((k + j : Nat) : Int) ∧ i = .int .i64 j ∧ wr.ownsRow lo 3 1 (.slice A n cp) n ys ∧ Hid (∀ i, i < j → ys[i]? = some (.int .i64 ((k + i : Nat) : Int))) ∧ w.grownBy wr (Value.slice A n cp).ownBlock) (fun _ i _ => n - (intOf i).toNat)
  case atStart => exact ⟨0, intVals zs, Nat.zero_le _, rfl, rfl, hown, fun i hi => by omega, World.grownBy.refl w _⟩
  case round =>
    obtain ⟨j, ys, hj, rfl, rfl, hown, hys, hgr⟩ := hrel
    have hyl : ys.length = n := by have := hown.1; omega
    by_cases hlt : j < n
    · obtain ⟨g, rfl, hg, hgl⟩ := own_addr hown (by omega)
      obtain ⟨u0, hu0⟩ : ∃ u, ys[j]? = some u := ⟨_, List.getElem?_eq_getElem (by omega)⟩
      have hc : wr.cell? ⟨g, j, none⟩ = some u0 := by rw [hown.cellAt j (by omega)]; exact hu0
      clear hu0
      have hf := hown.frozenAt j
      have hst := hown.stored j (.int .i64 ((k + j : Nat) : Int))
      have Hgr2 := Lib.hid (hgr.trans hst.2)
      have Hys := Lib.hid (markInts_set hyl hys.out hlt rfl)
      have Hst := Lib.hid hst.1
      have hj0 : (0 : Int) ≤ j := by omega
      have hj1 : (j : Int) < n := by omega
      clear hst hown hyl hys hgr
      go_wp2_with fail
      go_roundw
      case rel => exact ⟨j + 1, _, by omega, by go_num, by go_num, Hst.out, Hys.out, Hgr2.out⟩
      case measure => simp [intOf]; omega
    · obtain rfl : j = n := by omega
      have hm := markInts_of hyl hys.out
      subst hm
      have Hown := Lib.hid hown
      have Hgr := Lib.hid hgr
      clear hown hys hyl hgr
      go_wp2_with fail
      go_ret
      exact ⟨rfl, ⟨Hown.out, htop.out⟩, Hgr.out⟩
theorem toIntS_own (A : Option Addr) (n c : Nat) (zs : List Int) (w : World) (hr : Ints w A zs) (hl : zs.length = n) (hn : n ≤ 2000000) :
    Calls Try.prog 39 #[.slice A n c] w fun e w' => ∃ A', e = .returned (.slice A' n n) ∧ OwnI w.heap.size w'.heap.size w' (.slice A' n n) n zs ∧ Below w.heap.size w w' :=
  (toIntS_any A n c zs w hr hl hn).mono fun _ _ ⟨_, he, ho, hb⟩ => ⟨_, he, OwnI.of_own ho, hb⟩
/-- Two slices that read as the same numbers. -/
theorem eqIntS_same (n m c1 c2 : Nat) (A B : Option Addr) (xs ys : List Int) (w : World) (ha : Ints w A xs) (hb : Ints w B ys) (he : xs = ys) (hl : xs.length = n) (hm : ys.length = m) (hn : n ≤ 1000000000000) :
    Calls Try.prog 40 #[.slice A n c1, .slice B m c2] w fun e w' => e = .returned (.bool true) ∧ Below w.heap.size w w' := by
  subst he
  exact (eqIntS_any n c1 m c2 A B xs xs w ha hb hl hm hn).mono fun _ _ ⟨h1, h2⟩ => ⟨by rw [h1, decide_eq_true rfl], h2⟩
end Go.Proofs.Ytfpcjgolcbjnjaa

namespace Go.Proofs.Ytfpcjgolcbjnjaa
open Go Go.RowKit
section
variable {w wr w1 w' : World} {g g' : Nat} {T T' : TypeId} {cs xs rs ts : Array Value}
/-- A cell of a block that is known whole, and that it may be written. -/
theorem blk {i : Nat} {u : Value} (h : w.heap[g]? = some (.cells cs T (0, 0))) (e : cs[i]? = some u) : w.cell? ⟨g, i, none⟩ = some u ∧ w.frozen? ⟨g, i, none⟩ = false :=
  ⟨by simp [World.cell?, h, e], by simp [World.frozen?, h]⟩
theorem new_at (w : World) (o : Obj) (B : Nat) (h : w.heap.size = B) : (w.alloc o).heap[B]? = some o := by subst h; exact heap_alloc_new w o
/-- The struct that came in (block w.heap.size), and the one that goes out (the next). -/
structure Bx2 (w wr : World) (T : TypeId) (xs : Array Value) (T' : TypeId) (rs : Array Value) : Prop where
  arg : wr.heap[w.heap.size]? = some (.cells xs T (0, 0))
  res : wr.heap[w.heap.size + 1]? = some (.cells rs T' (0, 0))
  low : Below w.heap.size w wr
theorem Bx2.start (w : World) (T : TypeId) (xs : Array Value) (T' : TypeId) (rs : Array Value) : Bx2 w ((w.alloc (.cells xs T)).alloc (.cells rs T')) T xs T' rs := by
  refine ⟨?_, ?_, ((Below.refl _ _).alloc (Nat.le_refl _) _).alloc (by simp) _⟩
  · rw [Below.heap_alloc _ _ _ (by simp)]
    exact heap_alloc_new w _
  · have h := heap_alloc_new (w.alloc (.cells xs T)) (.cells rs T')
    simpa using h
theorem Bx2.next (h : Bx2 w wr T xs T' rs) (hb : Below wr.heap.size wr w1) : Bx2 w w1 T xs T' rs :=
  ⟨heap_below h.arg hb, heap_below h.res hb, h.low.trans (hb.mono h.low.size)⟩
theorem Bx2.mid {lo hi : Nat} (h : Bx2 w wr T xs T' rs) (m : Mid lo hi wr w1) (hl : w.heap.size + 1 < lo) : Bx2 w w1 T xs T' rs :=
  ⟨m.heap h.arg (by omega), m.heap h.res (by omega), m.below h.low (by omega) h.low.size⟩
theorem Bx2.far (h : Bx2 w wr T xs T' rs) (hg : w.heap.size + 1 < g) (i : Nat) (z : Value) : Bx2 w (wr.setCell ⟨g, i, none⟩ z) T xs T' rs :=
  ⟨heap_far h.arg (by simp; omega) z, heap_far h.res (by simp; omega) z, h.low.setCell (by simp; omega) _⟩
theorem Bx2.lt (h : Bx2 w wr T xs T' rs) : w.heap.size + 1 < wr.heap.size := heap_lt h.res
/-- One more block behind them. -/
structure Bx3 (w wr : World) (T : TypeId) (xs : Array Value) (T' : TypeId) (rs : Array Value) (T3 : TypeId) (ts : Array Value) : Prop where
  two : Bx2 w wr T xs T' rs
  out : wr.heap[w.heap.size + 1 + 1]? = some (.cells ts T3 (0, 0))
variable {T3 : TypeId}
theorem Bx3.start (w : World) (T : TypeId) (xs : Array Value) (T' : TypeId) (rs : Array Value) (T3 : TypeId) (ts : Array Value) : Bx3 w (((w.alloc (.cells xs T)).alloc (.cells rs T')).alloc (.cells ts T3)) T xs T' rs T3 ts := by
  refine ⟨(Bx2.start w T xs T' rs).next ((Below.refl _ _).alloc (Nat.le_refl _) _), ?_⟩
  have h := heap_alloc_new ((w.alloc (.cells xs T)).alloc (.cells rs T')) (.cells ts T3)
  simpa using h
theorem Bx3.next (h : Bx3 w wr T xs T' rs T3 ts) (hb : Below wr.heap.size wr w1) : Bx3 w w1 T xs T' rs T3 ts := ⟨h.two.next hb, heap_below h.out hb⟩
theorem Bx3.lt (h : Bx3 w wr T xs T' rs T3 ts) : w.heap.size + 1 + 1 < wr.heap.size := heap_lt h.out
theorem Bx3.setOut (h : Bx3 w wr T xs T' rs T3 ts) (i : Nat) (u : Value) : Bx3 w (wr.setCell ⟨w.heap.size + 1 + 1, i, none⟩ u) T xs T' rs T3 (ts.setIfInBounds i u) :=
  ⟨h.two.far (by omega) i u, heap_set h.out u⟩
theorem Bx3.setRes (h : Bx3 w wr T xs T' rs T3 ts) (i : Nat) (u : Value) : Bx3 w (wr.setCell ⟨w.heap.size + 1, i, none⟩ u) T xs T' (rs.setIfInBounds i u) T3 ts :=
  ⟨⟨heap_far h.two.arg (by simp) u, heap_set h.two.res u, h.two.low.setCell (by simp) _⟩, heap_far h.out (by simp) u⟩
theorem Bx3.is {rs' ts' : Array Value} (h : Bx3 w wr T xs T' rs T3 ts) (e : rs' = rs) (e' : ts' = ts) : Bx3 w wr T xs T' rs' T3 ts' := by subst e e'; exact h
theorem Bx2.is {rs' : Array Value} (h : Bx2 w wr T xs T' rs) (e : rs' = rs) : Bx2 w wr T xs T' rs' := by subst e; exact h
theorem Bx2.setArg (h : Bx2 w wr T xs T' rs) (i : Nat) (u : Value) : Bx2 w (wr.setCell ⟨w.heap.size, i, none⟩ u) T (xs.setIfInBounds i u) T' rs :=
  ⟨heap_set h.arg u, heap_far h.res (by simp) u, h.low.setCell (Nat.le_refl _) _⟩
theorem Bx2.setRes (h : Bx2 w wr T xs T' rs) (i : Nat) (u : Value) : Bx2 w (wr.setCell ⟨w.heap.size + 1, i, none⟩ u) T xs T' (rs.setIfInBounds i u) :=
  ⟨heap_far h.arg (by simp) u, heap_set h.res u, h.low.setCell (by simp) _⟩
end
/-- What a size counter leaves: the number that is left, or a number below 0. -/
def szRes (left n : Nat) : Int := if n ≤ left then ((left - n : Nat) : Int) else -1
theorem szRes_yes {left n : Nat} {e : Ending} (h : e = .returned (.int .i64 (szRes left n))) (hn : n ≤ left) : e = .returned (.int .i64 ((left - n : Nat) : Int)) := by rw [h, szRes, if_pos hn]
theorem szRes_no {left n : Nat} {e : Ending} (h : e = .returned (.int .i64 (szRes left n))) (hn : ¬ n ≤ left) : e = .returned (.int .i64 (-1)) := by rw [h, szRes, if_neg hn]
def Sized (left n : Nat) (w : World) (e : Ending) (w' : World) : Prop := e = .returned (.int .i64 (szRes left n)) ∧ Below w.heap.size w w'
theorem Sized.yes {left n r : Nat} {w w' : World} (h : Below w.heap.size w w') (hr : n ≤ left ∧ r = left - n) : Sized left n w (.returned (.int .i64 (r : Int))) w' := ⟨by rw [szRes, if_pos hr.1, hr.2], h⟩
theorem Sized.no {left n : Nat} {w w' : World} (h : Below w.heap.size w w') (hn : ¬ n ≤ left) : Sized left n w (.returned (.int .i64 (-1))) w' := ⟨by rw [szRes, if_neg hn], h⟩
theorem szIntS_any (left : Nat) (A : Option Addr) (n c : Nat) (w : World) (hl : left ≤ 1048576) (hn : n ≤ 9223372036854775807) :
    Calls Try.prog 66 #[.slice A n c, .int .i64 (left : Int)] w fun e w' => e = .returned (.int .i64 (szRes left n)) ∧ w = w' := by
  by_cases h : n ≤ left
  · have e : szRes left n = (left : Int) - (n : Int) := by rw [szRes, if_pos h]; omega
    rw [e]
    clear e
    go_enter Try.func66, Try.ntmps66
    go_wp2_with fail
    go_ret
    exact ⟨rfl, rfl⟩
  · have e : szRes left n = -1 := by rw [szRes, if_neg h]
    rw [e]
    clear e
    go_enter Try.func66, Try.ntmps66
    go_wp2_with fail
    go_ret
    exact ⟨rfl, rfl⟩
end Go.Proofs.Ytfpcjgolcbjnjaa

namespace Go.Proofs.Ytfpcjgolcbjnjaa
open Go Go.RowKit
/-- A list of numbers in new memory. -/
def MadeI (zs : List Int) (w : World) (e : Ending) (w' : World) : Prop :=
  ∃ (A : Option Addr) (m c : Nat), e = .returned (.slice A m c) ∧ zs.length = m ∧ OwnI w.heap.size w'.heap.size w' (.slice A m c) m zs ∧ Below w.heap.size w w'
theorem MadeI.nil_ {w w' : World} (hb : Below w.heap.size w w') : MadeI [] w (.returned (.slice none 0 0)) w' :=
  ⟨none, 0, 0, rfl, rfl, OwnI.nil _ _ _, hb⟩
theorem MadeI.is {zs ys : List Int} {w w' : World} {e : Ending} (h : MadeI zs w e w') (he : zs = ys) : MadeI ys w e w' := by subst he; exact h
/-- A slice that the call builds: its first k elements. -/
structure Grow (w wr : World) (v : Value) (k : Nat) (zs : List Int) : Prop where
  own : wr.ownsRow w.heap.size 3 1 v k (intVals zs)
  low : Below w.heap.size w wr
section
variable {w wr w1 w2 : World} {v v' : Value} {k : Nat} {zs : List Int}
theorem Grow.next (h : Grow w wr v k zs) (hb : Below wr.heap.size wr w1) : Grow w w1 v k zs := ⟨own_below h.own hb, h.low.trans (hb.mono h.low.size)⟩
theorem Grow.alloc (h : Grow w wr v k zs) (o : Obj) : Grow w (wr.alloc o) v k zs := h.next ((Below.refl _ _).alloc (Nat.le_refl _) _)
theorem Grow.drew (h : Grow w wr v k zs) : Grow w wr.drew v k zs := ⟨h.own, h.low.drew⟩
theorem Grow.drewN (h : Grow w wr v k zs) (j : Nat) : Grow w (wr.drewN j) v k zs := ⟨h.own, below_drewN h.low j⟩
theorem Grow.size (h : Grow w wr v k zs) : w.heap.size ≤ wr.heap.size := h.low.size
theorem Grow.app (h : Grow w wr v k zs) {n : Nat} {xs : List Value} {ys : List Int} (ho : w2.ownsRow w.heap.size 3 1 v' n xs) (hg : wr.grownBy w2 v.ownBlock) (he : xs = intVals ys) : Grow w w2 v' n ys :=
  ⟨by rw [← he]; exact ho, below_own h.low h.own hg (Nat.le_refl _) h.low.size⟩
theorem Grow.nil (hb : Below w.heap.size w wr) : Grow w wr (.slice none 0 0) 0 [] := ⟨⟨rfl, .inl ⟨rfl, rfl⟩⟩, hb⟩
/-- make([]int, 0, n) -/
theorem Grow.made (hb : Below w.heap.size w wr) (hg : wr.grownBy w1 none) (ho : w1.ownsRow w.heap.size 3 1 v 0 []) : Grow w w1 v 0 [] :=
  ⟨ho, hb.grown hg hb.size (fun k h => by cases h)⟩
/-- []int{} -/
theorem Grow.empty (hb : Below w.heap.size w wr) : Grow w (wr.alloc (.cells #[] 3)) (.slice (some ⟨wr.heap.size, 0, none⟩) 0 0) 0 [] :=
  ⟨World.ownsRow_made (e := 3) (size := 1) (base := w.heap.size) wr #[] 0 hb.size (by unfold maxLen; omega) rfl, hb.alloc hb.size _⟩
theorem Grow.len (h : Grow w wr v k zs) : zs.length = k := by have := h.own.1; rw [intVals_length] at this; omega
theorem Grow.done (h : Grow w wr v k zs) : MadeI zs w (.returned v) wr := by
  obtain ⟨A, m, c, rfl, rfl⟩ := ownsRow_slice h.own
  exact ⟨A, k, c, rfl, h.len, OwnI.of_own h.own, h.low⟩
theorem MadeI.grow {zs : List Int} {e : Ending} (h : MadeI zs w e wr) : ∃ (A : Option Addr) (m c : Nat), e = .returned (.slice A m c) ∧ zs.length = m ∧ Grow w wr (.slice A m c) m zs := by
  obtain ⟨A, m, c, he, hl, ho, hb⟩ := h
  exact ⟨A, m, c, he, hl, ho.own, hb⟩
theorem Grow.addr {A : Option Addr} {c : Nat} (h : Grow w wr (.slice A k c) k zs) (h0 : 0 < k) : ∃ g, A = some ⟨g, 0, none⟩ ∧ w.heap.size ≤ g ∧ g < wr.heap.size := own_addr h.own h0
theorem Grow.at_ {g c j : Nat} (h : Grow w wr (.slice (some ⟨g, 0, none⟩) k c) k zs) (hj : j < k) : wr.cell? ⟨g, j, none⟩ = some (.int .i64 (zs.getD j 0)) ∧ wr.frozen? ⟨g, j, none⟩ = false := by
  refine ⟨?_, h.own.frozenAt j⟩
  have hl := h.len
  rw [h.own.cellAt j (by omega)]
  simp [intVals, List.getElem?_map, List.getD_eq_getElem?_getD, List.getElem?_eq_getElem (show j < zs.length by omega)]
theorem Grow.set {g c : Nat} (h : Grow w wr (.slice (some ⟨g, 0, none⟩) k c) k zs) (hg : w.heap.size ≤ g) (j : Nat) (x : Int) :
    Grow w (wr.setCell ⟨g, j, none⟩ (.int .i64 x)) (.slice (some ⟨g, 0, none⟩) k c) k (zs.set j x) := by
  refine ⟨?_, h.low.setCell (by simpa using hg) _⟩
  have := (h.own.stored j (.int .i64 x)).1
  simpa [intVals, List.map_set] using this
theorem snoc_vals {zs : List Int} {z : Int} {ys : List Int} (h : ys = zs ++ [z]) : intVals zs ++ (#[Value.int .i64 z] : Array Value).toList = intVals ys := by subst h; simp [intVals]
end
end Go.Proofs.Ytfpcjgolcbjnjaa

namespace Go.Proofs.Ytfpcjgolcbjnjaa
open Go Go.RowKit
theorem below_alloc (w : World) (o : Obj) : Below w.heap.size w (w.alloc o) := (Below.refl _ _).alloc (Nat.le_refl _) _
theorem low_alloc {w wr : World} (h : Below w.heap.size w wr) (o : Obj) : Below w.heap.size w (wr.alloc o) := h.alloc h.size o
def Post_int (r : Int) (w : World) (e : Ending) (w' : World) : Prop := e = .returned (.int .i64 r) ∧ Below w.heap.size w w'
def Post_bool (r : Bool) (w : World) (e : Ending) (w' : World) : Prop := e = .returned (.bool r) ∧ Below w.heap.size w w'
def Post_I (zs : List Int) (w : World) (e : Ending) (w' : World) : Prop := MadeI zs w e w'
def Post_I_bool (zs : List Int) (r : Bool) (w : World) (e : Ending) (w' : World) : Prop :=
  ∃ (A : Option Addr) (m c : Nat), e = .returned (.tuple #[.slice A m c, .bool r]) ∧ zs.length = m ∧ OwnI w.heap.size w'.heap.size w' (.slice A m c) m zs ∧ Below w.heap.size w w'
def Post_I_Tape (zs : List Int) (s a : Int) (w : World) (e : Ending) (w' : World) : Prop :=
  ∃ (A : Option Addr) (m c : Nat), e = .returned (.tuple #[.slice A m c, .agg #[.int .i64 s, .int .i64 a]]) ∧ zs.length = m ∧ OwnI w.heap.size w'.heap.size w' (.slice A m c) m zs ∧ Below w.heap.size w w'
end Go.Proofs.Ytfpcjgolcbjnjaa

namespace Go.Proofs.Ytfpcjgolcbjnjaa
open Go Go.RowKit
/-- The cursor stands; of what there was in w, only the cursor's block has turned. -/
structure RunD (T : TypeId) (B g : Nat) (w wr : World) : Prop where
  cur : Cur T B wr g
  gr : w.grownBy wr (some g)
  lt : g < w.heap.size
section
variable {T : TypeId} {B g : Nat} {w wr w1 : World}
theorem RunD.start (h : Cur T B w g) : RunD T B g w w := ⟨h, World.grownBy.refl w _, h.lt⟩
theorem RunD.alloc (h : RunD T B g w wr) (o : Obj) : RunD T B g w (wr.alloc o) := ⟨h.cur.alloc o, grown_alloc h.gr o, h.lt⟩
theorem RunD.next (h : RunD T B g w wr) (hc : Cur T B w1 g) (hg : wr.grownBy w1 (some g)) : RunD T B g w w1 := ⟨hc, h.gr.trans hg, h.lt⟩
theorem RunD.below (h : RunD T B g w wr) (hb : Below wr.heap.size wr w1) : RunD T B g w w1 := ⟨h.cur.below hb h.cur.lt, grown_below h.gr hb, h.lt⟩
theorem RunD.drew (h : RunD T B g w wr) : RunD T B g w wr.drew := ⟨h.cur.drew, grownBy_drew h.gr, h.lt⟩
theorem RunD.drewN (h : RunD T B g w wr) (k : Nat) : RunD T B g w (wr.drewN k) := ⟨h.cur.drewN k, grownBy_drewN h.gr k, h.lt⟩
theorem grown_far {b i : Nat} {v : Value} (h : w.grownBy wr (some g)) (hb : w.heap.size ≤ b) : w.grownBy (wr.setCell ⟨b, i, none⟩ v) (some g) :=
  ⟨h.os, h.tape, h.output, Nat.le_trans h.size (by simp [World.setCell]), fun k hk hne => (Below.heap_setCell wr _ v k (by simp; omega)).trans (h.block k hk hne)⟩
theorem RunD.set (h : RunD T B g w wr) {b : Nat} (hb : w.heap.size ≤ b) (i : Nat) (v : Value) : RunD T B g w (wr.setCell ⟨b, i, none⟩ v) :=
  ⟨h.cur.grown (grownBy_set wr b i v) (fun k e => by injection e with e; have := h.lt; omega), grown_far h.gr hb, h.lt⟩
theorem RunD.size (h : RunD T B g w wr) : w.heap.size ≤ wr.heap.size := h.gr.size
theorem RunD.own {base n size : Nat} {e : TypeId} {v : Value} {xs : List Value} (h : RunD T B g w wr) (hown : wr.ownsRow base e size v n xs) (hg : wr.grownBy w1 v.ownBlock) (hb : w.heap.size ≤ base) : RunD T B g w w1 :=
  ⟨cur_own h.cur hown hg (by have := h.lt; omega), grown_own h.gr hown hg hb, h.lt⟩
end
/-- A block that was there when a draw began, or was laid since, stays. -/
theorem heap_draw {w w1 : World} {b g : Nat} {o : Obj} (h : w.heap[b]? = some o) (hg : w.grownBy w1 (some g)) (hb : g ≠ b) : w1.heap[b]? = some o :=
  heap_grown h hg (fun e => hb (by injection e))
end Go.Proofs.Ytfpcjgolcbjnjaa

namespace Go.Proofs.Ytfpcjgolcbjnjaa
open Go Go.RowKit
/-- A slice of elements of m numbers, of the call's own, in a block from lo on and below hi: its numbers one behind the other. -/
structure OwnA (m lo hi : Nat) (w : World) (v : Value) (n : Nat) (zs : List Int) : Prop where
  own : ∃ e, w.ownsRow lo e m v n (intVals zs)
  top : ∀ k, v.ownBlock = some k → k < hi
section
variable {w w' w1 w2 : World} {m m' lo hi lo' hi' B n k : Nat} {u v : Value} {zs ys : List Int}
theorem OwnI.any (h : OwnI lo hi w v n zs) : OwnA 1 lo hi w v n zs := ⟨⟨_, h.own⟩, h.top⟩
theorem OwnA.len (h : OwnA m lo hi w v n zs) : zs.length = n * m := by obtain ⟨e, h⟩ := h.own; have := h.1; rwa [intVals_length] at this
theorem OwnA.len1 (h : OwnA 1 lo hi w v n zs) : zs.length = n := by have := h.len; omega
theorem OwnA.form (h : OwnA m lo hi w v n zs) : ∃ (A : Option Addr) (c : Nat), v = .slice A n c := by
  obtain ⟨e, h⟩ := h.own
  obtain ⟨A, m, c, e, rfl⟩ := ownsRow_slice h
  exact ⟨A, c, e⟩
theorem OwnA.nil (m lo hi : Nat) (w : World) : OwnA m lo hi w (.slice none 0 0) 0 [] := ⟨⟨0, World.ownsRow_nil w lo _ m⟩, fun k h => by simp [Value.ownBlock] at h⟩
theorem OwnA.lt (h : OwnA m lo hi w v n zs) (hg : v.ownBlock = some B) : lo ≤ B ∧ B < w.heap.size := by obtain ⟨e, h⟩ := h.own; exact h.lt B hg
theorem OwnA.ltB (h : OwnA m lo hi w v n zs) (hg : v.ownBlock = some B) : lo ≤ B ∧ B < hi := ⟨(h.lt hg).1, h.top B hg⟩
theorem OwnA.mid (h : OwnA m lo hi w v n zs) (k : Mid lo' hi' w w1) (hd : hi ≤ lo' ∨ hi' ≤ lo) : OwnA m lo hi w1 v n zs := by
  obtain ⟨⟨e, ho⟩, ht⟩ := h
  refine ⟨⟨e, ho.1, ?_⟩, ht⟩
  rcases ho.2 with e | ⟨g, cap, cur, e, hg, hh, r⟩
  · exact .inl e
  · exact .inr ⟨g, cap, cur, e, hg, k.heap hh (by have := ht g (by rw [e]; rfl); omega), r⟩
theorem OwnA.below (h : OwnA m lo hi w v n zs) (hb : Below w.heap.size w w1) : OwnA m lo hi w1 v n zs := by obtain ⟨e, ho⟩ := h.own; exact ⟨⟨e, own_below ho hb⟩, h.top⟩
theorem OwnA.alloc (h : OwnA m lo hi w v n zs) (o : Obj) : OwnA m lo hi (w.alloc o) v n zs := h.below ((Below.refl _ _).alloc (Nat.le_refl _) _)
theorem OwnA.drew (h : OwnA m lo hi w v n zs) : OwnA m lo hi w.drew v n zs := ⟨h.own, h.top⟩
theorem OwnA.drewN (h : OwnA m lo hi w v n zs) (k : Nat) : OwnA m lo hi (w.drewN k) v n zs := ⟨h.own, h.top⟩
theorem OwnA.wide (h : OwnA m lo hi w v n zs) (h1 : lo' ≤ lo) (h2 : hi ≤ hi') : OwnA m lo' hi' w v n zs := by
  obtain ⟨e, ho⟩ := h.own
  exact ⟨⟨e, own_mono ho h1⟩, fun k e => Nat.lt_of_lt_of_le (h.top k e) h2⟩
theorem OwnA.of_own {e : TypeId} (h : w.ownsRow lo e m v n (intVals zs)) : OwnA m lo w.heap.size w v n zs := ⟨⟨e, h⟩, fun k e => (h.lt k e).2⟩
theorem OwnA.keep (h : OwnA m lo hi w v n zs) (hg : w.grownBy w1 u.ownBlock) (ha : apart v u) : OwnA m lo hi w1 v n zs := by
  obtain ⟨e, ho⟩ := h.own
  exact ⟨⟨e, ho.kept hg (by
    rcases hv : v.ownBlock with _ | k
    · exact .inl rfl
    · exact .inr (fun e => ha k hv e.symm))⟩, h.top⟩
theorem OwnA.ints {A : Option Addr} {c : Nat} (h : OwnA m lo hi w (.slice A n c) n zs) : Ints w A zs := fun h0 => by
  have hl := h.len
  obtain ⟨e, ho⟩ := h.own
  rcases ho.2 with ⟨he, h1⟩ | ⟨g, cap, cur, he, hg, hh, _⟩
  · subst h1; rw [Nat.zero_mul] at hl; omega
  · injection he with he1 he2 he3
    subst he1 he3
    refine ⟨g, 0, rfl, (Array.getElem?_eq_some_iff.1 hh).1, fun j hj => ?_⟩
    rw [Nat.zero_add, ho.cellAt j (by omega)]
    simp [intVals, List.getElem?_map, List.getElem?_eq_getElem hj]
theorem OwnA.intsB {A : Option Addr} {c : Nat} (h : OwnA m lo hi w (.slice A n c) n zs) : IntsB hi w A zs := fun h0 => by
  obtain ⟨b, o, e, hl, hc⟩ := h.ints h0
  exact ⟨b, o, e, h.top b (by rw [e]; rfl), hc⟩
/-- Slices from two ranges of blocks. -/
theorem OwnA.apart_of (h : OwnA m lo hi w v n zs) (k : OwnA m' lo' hi' w1 u B ys) (hd : hi ≤ lo') : apart v u := fun g e e' => by
  have := h.top g e
  have := (k.lt e').1
  omega
theorem OwnA.setFar {g i : Nat} (h : OwnA m lo hi w v n zs) (hg : g < lo) (u : Value) : OwnA m lo hi (w.setCell ⟨g, i, none⟩ u) v n zs := by
  obtain ⟨e, ho⟩ := h.own
  exact ⟨⟨e, ownsRow_setCell_below ho (a := ⟨g, i, none⟩) hg u⟩, h.top⟩
theorem OwnA.setFar' {g i : Nat} (h : OwnA m lo hi w v n zs) (hg : hi ≤ g) (u : Value) : OwnA m lo hi (w.setCell ⟨g, i, none⟩ u) v n zs := by
  obtain ⟨⟨e, ho⟩, ht⟩ := h
  refine ⟨⟨e, ho.1, ?_⟩, ht⟩
  rcases ho.2 with e | ⟨g', cap, cur, e, hg', hh, r⟩
  · exact .inl e
  · exact .inr ⟨g', cap, cur, e, hg', by rw [Below.heap_setCell _ _ _ _ (by have := ht g' (by rw [e]; rfl); simp; omega)]; exact hh, r⟩
theorem OwnA.far {g i : Nat} (h : OwnA m lo hi w v n zs) (hg : g < lo ∨ hi ≤ g) (u : Value) : OwnA m lo hi (w.setCell ⟨g, i, none⟩ u) v n zs := hg.elim (fun h1 => h.setFar h1 u) (fun h1 => h.setFar' h1 u)
theorem OwnA.is (h : OwnA m lo hi w v n zs) (e : zs = ys) : OwnA m lo hi w v n ys := by subst e; exact h
end
/-- Of the blocks that there were, only those of these slices may have turned. -/
def Spare (vs : List Value) (w w' : World) : Prop := ∀ b, b < w.heap.size → (∀ v ∈ vs, v.ownBlock ≠ some b) → w'.heap[b]? = w.heap[b]?
theorem Spare.of_below {vs : List Value} {w w' : World} (h : Below w.heap.size w w') : Spare vs w w' := fun b hb _ => h.block b hb
theorem Spare.grown {vs : List Value} {v : Value} {w w1 w2 : World} (h : Spare vs w w1) (hs : w.heap.size ≤ w1.heap.size) (hg : w1.grownBy w2 v.ownBlock) (hv : v ∈ vs) : Spare vs w w2 := fun b hb ha =>
  (hg.block b (by omega) (fun e => ha v hv e.symm)).trans (h b hb ha)
theorem OwnA.spare {vs : List Value} {m lo hi n : Nat} {w w' : World} {u : Value} {zs : List Int} (h : OwnA m lo hi w u n zs) (s : Spare vs w w') (ha : ∀ v ∈ vs, apart u v) : OwnA m lo hi w' u n zs := by
  obtain ⟨⟨e, ho⟩, ht⟩ := h
  refine ⟨⟨e, ho.1, ?_⟩, ht⟩
  rcases ho.2 with e | ⟨g, cap, cur, e, hg, hh, r⟩
  · exact .inl e
  · exact .inr ⟨g, cap, cur, e, hg, (s g (heap_lt hh) (fun v hv => ha v hv g (by rw [e]; rfl))).trans hh, r⟩
/-- Marking turns the slice's own block alone. -/
theorem markIntS_ownA (lo hi n k : Nat) (v : Value) (zs : List Int) (w : World) (h : OwnA 1 lo hi w v n zs) (hn : n + k ≤ 1000000000) :
    Calls Try.prog 41 #[v, .int .i64 (k : Int)] w fun e w' => e = .returned (.int .i64 ((k + n : Nat) : Int)) ∧ OwnA 1 lo hi w' v n (markInts k n) ∧ w.grownBy w' v.ownBlock := by
  obtain ⟨te, hown⟩ := h.own
  have htop := Lib.hid h.top
  clear h
  obtain ⟨A, m, cp, rfl, rfl⟩ := ownsRow_slice hown
  go_enter Try.func41, Try.ntmps41
  go_wp2_with fail
  go_loopw [1, 5] (fun a i wr => ∃ (j : Nat) (ys : List Value), j ≤ n ∧ a = .int .i64 ((k + j : Nat) : Int) ∧ i = .int .i64 j ∧ wr.ownsRow lo te 1 (.slice A n cp) n ys ∧ Hid (∀ i, i < j → ys[i]? = some (.int .i64 ((k + i : Nat) : Int))) ∧ w.grownBy wr (Value.slice A n cp).ownBlock) (fun _ i _ => n - (intOf i).toNat)
  case atStart => exact ⟨0, intVals zs, Nat.zero_le _, rfl, rfl, hown, fun i hi => by omega, World.grownBy.refl w _⟩
  case round =>
    obtain ⟨j, ys, hj, rfl, rfl, hown, hys, hgr⟩ := hrel
    have hyl : ys.length = n := by have := hown.1; omega
    by_cases hlt : j < n
    · obtain ⟨g, rfl, hg, hgl⟩ := own_addr hown (by omega)
      obtain ⟨u0, hu0⟩ : ∃ u, ys[j]? = some u := ⟨_, List.getElem?_eq_getElem (by omega)⟩
      have hc : wr.cell? ⟨g, j, none⟩ = some u0 := by rw [hown.cellAt j (by omega)]; exact hu0
      clear hu0
      have hf := hown.frozenAt j
      have hst := hown.stored j (.int .i64 ((k + j : Nat) : Int))
      have Hgr2 := Lib.hid (hgr.trans hst.2)
      have Hys := Lib.hid (markInts_set hyl hys.out hlt rfl)
      have Hst := Lib.hid hst.1
      have hj0 : (0 : Int) ≤ j := by omega
      have hj1 : (j : Int) < n := by omega
      clear hst hown hyl hys hgr
      go_wp2_with fail
      go_roundw
      case rel => exact ⟨j + 1, _, by omega, by go_num, by go_num, Hst.out, Hys.out, Hgr2.out⟩
      case measure => simp [intOf]; omega
    · obtain rfl : j = n := by omega
      have hm := markInts_of hyl hys.out
      subst hm
      have Hown := Lib.hid hown
      have Hgr := Lib.hid hgr
      clear hown hys hyl hgr
      go_wp2_with fail
      go_ret
      exact ⟨rfl, ⟨⟨te, Hown.out⟩, htop.out⟩, Hgr.out⟩
end Go.Proofs.Ytfpcjgolcbjnjaa

namespace Go.Proofs.Ytfpcjgolcbjnjaa
open Go Go.RowKit
theorem step_app_ints {P : Program} {t e : TypeId} {w : World} (L : Elem P t e 1 8) {ops : Array Oper} {o : Oper} {a : Act} {K : Act → World → Prop} {Q : Exit → Act → World → Prop} {E : Prop} (hgd : o.guard = none) (s x : Operand)
    (ho : o.op = .call { callee := .builtin .append, args := #[s, x], argTypes := #[t, t] }) (base : Nat) (v : Value) (n : Nat) (xs : List Value) (hs : a.eval s = v) (hown : w.ownsRow base e 1 v n xs)
    (A : Option Addr) (m c : Nat) (zs : List Int) (hxx : a.eval x = .slice A m c) (hz : Ints w A zs) (hl : zs.length = m) (h63 : n + m ≤ maxLen) (hbytes : (n + m) * 8 ≤ 140737488355328) (hbase : base ≤ w.heap.size)
    (h : ∀ v' w', w'.ownsRow base e 1 v' (n + m) (xs ++ intVals zs) → w.grownBy w' v.ownBlock → (v'.ownBlock = v.ownBlock ∨ v'.ownBlock = some w.heap.size) → K (a.put o.dst v') w') :
    if Region.wanted o (yielded ops a.tmps) = true then Oper.wp P o a w K Q else E := by
  have hw : Region.wanted o (yielded ops a.tmps) = true := by simp [Region.wanted, hgd]
  rw [if_pos hw]
  obtain ⟨v', w', hr, h2, h3, h4⟩ := run_app_ints (P := P) L o.type base v n xs hown A m c zs hz hl h63 hbytes hbase
  unfold Oper.wp execOp
  simp only [ho, resolve, invoke, builtin, Sem.run_bind, Sem.run_pure, Result.andThen_ok, List.map_toArray, List.map_cons, List.map_nil, hs, hxx, hr]
  exact h v' w' h2 h3 h4
/-- An empty slice in a block of the call's own. -/
theorem own_nil {w : World} {b base : Nat} {e : TypeId} (h : w.heap[b]? = some (.cells #[] e (0, 0))) (hb : base ≤ b) : w.ownsRow base e 1 (.slice (some ⟨b, 0, none⟩) 0 0) 0 [] :=
  ⟨rfl, .inr ⟨b, 0, #[], rfl, hb, h, Nat.le_refl _, Nat.zero_le _, rfl, rfl⟩⟩
theorem own_ge {B b k n c : Nat} (hb : B ≤ b) (e : (Value.slice (some ⟨b, 0, none⟩) n c).ownBlock = some k) : B ≤ k := by
  have e : b = k := by simpa [Value.ownBlock] using e
  omega
theorem at_or {v' : Value} {b H n c k : Nat} (hat : v'.ownBlock = (Value.slice (some ⟨b, 0, none⟩) n c).ownBlock ∨ v'.ownBlock = some H) (e : v'.ownBlock = some k) : k = b ∨ k = H := by
  rcases hat with h | h
  · left
    rw [h] at e
    have e : b = k := by simpa [Value.ownBlock] using e
    omega
  · right
    rw [h] at e
    injection e with e
    omega
theorem apart_at {v : Value} {b n c : Nat} (h : ∀ k, v.ownBlock = some k → k ≠ b) : apart v (.slice (some ⟨b, 0, none⟩) n c) := fun k e e' => by
  have e' : b = k := by simpa [Value.ownBlock] using e'
  exact h k e e'.symm
theorem apart_or {v v' : Value} {b H n c : Nat} (hat : v'.ownBlock = (Value.slice (some ⟨b, 0, none⟩) n c).ownBlock ∨ v'.ownBlock = some H) (h : ∀ k, v.ownBlock = some k → k ≠ b ∧ k ≠ H) : apart v v' := fun k e e' => by
  have := h k e
  have := at_or hat e'
  omega
theorem cell_on {W w : World} {p : Addr} {v : Value} (hc : W.cell? p = some v) (h : Below W.heap.size W w) : w.cell? p = some v := (h.cell (World.block_lt_of_cell? W p hc)).trans hc
theorem far_one {w : World} {G i : Nat} {p : Addr} {z : Value} (h : w.cell? p = some z) (hne : p.block ≠ G) (u : Value) : (w.setCell ⟨G, i, none⟩ u).cell? p = some z :=
  (World.cell?_of_block (Below.heap_setCell _ _ _ _ hne)).trans h
theorem far_two {w : World} {G i j : Nat} {p : Addr} {z : Value} (h : w.cell? p = some z) (hne : p.block ≠ G) (u v : Value) : ((w.setCell ⟨G, i, none⟩ u).setCell ⟨G, j, none⟩ v).cell? p = some z :=
  far_one (far_one h hne u) hne v
end Go.Proofs.Ytfpcjgolcbjnjaa

namespace Go.Proofs.Ytfpcjgolcbjnjaa
open Go Go.RowKit
def Post_A (zs : List Int) (w : World) (e : Ending) (w' : World) : Prop :=
  ∃ (A : Option Addr) (m c : Nat), e = .returned (.slice A m c) ∧ OwnA 1 w.heap.size w'.heap.size w' (.slice A m c) m zs ∧ Below w.heap.size w w'
def Post_A_bool (zs : List Int) (r : Bool) (w : World) (e : Ending) (w' : World) : Prop :=
  ∃ (A : Option Addr) (m c : Nat), e = .returned (.tuple #[.slice A m c, .bool r]) ∧ OwnA 1 w.heap.size w'.heap.size w' (.slice A m c) m zs ∧ Below w.heap.size w w'
theorem Post_A.of {zs : List Int} {w w' : World} {e : Ending} (h : MadeI zs w e w') : Post_A zs w e w' := by
  obtain ⟨A, m, c, he, _, ho, hb⟩ := h
  exact ⟨A, m, c, he, ho.any, hb⟩
theorem Post_A_bool.of {zs : List Int} {r : Bool} {w w' : World} {e : Ending} (h : Post_I_bool zs r w e w') : Post_A_bool zs r w e w' := by
  obtain ⟨A, m, c, he, _, ho, hb⟩ := h
  exact ⟨A, m, c, he, ho.any, hb⟩
end Go.Proofs.Ytfpcjgolcbjnjaa

namespace Go.Proofs.Ytfpcjgolcbjnjaa
open Go Go.RowKit
section
variable {W w w' w1 : World} {A : Option Addr} {zs : List Int}
theorem below_on (hb : Below w.heap.size w w') (h : Below W.heap.size W w) : Below W.heap.size W w' := h.trans (hb.mono h.size)
theorem below_up (hb : Below w.heap.size w w') (h : Below w1.heap.size w1 w) : Below w1.heap.size w1 w' := h.trans (hb.mono h.size)
theorem ints_on (h : IntsB w1.heap.size W A zs) (low : Below w1.heap.size w1 W) (hL : Below W.heap.size W w) : Ints w A zs := (h.below (hL.mono low.size)).ints (Nat.le_trans low.size hL.size)
theorem ints_drew (h : IntsB w1.heap.size W A zs) (low : Below w1.heap.size w1 W) : Ints W.drew A zs := h.ints low.size
theorem ints_to (h : Ints W A zs) (hL : Below W.heap.size W w) : Ints w A zs := Ints.below h hL
theorem Ints.al (h : Ints w A zs) (o : Obj) : Ints (w.alloc o) A zs := h.below (below_alloc w o)
end
theorem toIntS_ownA (A : Option Addr) (n c : Nat) (zs : List Int) (w : World) (hr : Ints w A zs) (hl : zs.length = n) (hn : n ≤ 2000000) :
    Calls Try.prog 39 #[.slice A n c] w fun e w' => ∃ A', e = .returned (.slice A' n n) ∧ OwnA 1 w.heap.size w'.heap.size w' (.slice A' n n) n zs ∧ Below w.heap.size w w' :=
  (toIntS_own A n c zs w hr hl hn).mono fun _ _ ⟨_, he, ho, hb⟩ => ⟨_, he, ho.any, hb⟩
end Go.Proofs.Ytfpcjgolcbjnjaa
