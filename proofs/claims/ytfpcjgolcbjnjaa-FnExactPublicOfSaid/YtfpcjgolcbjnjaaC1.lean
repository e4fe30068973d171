/- Lists of structs of ints as one list of numbers: what every such struct shares; how the laws' frames open them. No condition. And what goes with it. -/
import Derived.Test.YtfpcjgolcbjnjaaProg
import Derived.Test.YtfpcjgolcbjnjaaB1
import Derived.Deep.Slices
import Derived.Deep.Fields
import Derived.ChangeSame
import Derived.ChangeArms
import Derived.Handy
namespace Go.Proofs.Ytfpcjgolcbjnjaa
open Go Go.RowKit Go.ChangeShapes Go.WideShapes
theorem get_at {ys : List Value} {p q : Nat} {v : Value} (h : p < ys.length) : (ys.set p v)[q]? = if q = p then some v else ys[q]? := by
  rw [List.getElem?_set]
  by_cases e : p = q
  · subst e; simp [h]
  · rw [if_neg e, if_neg (Ne.symm e)]
/-- Made cells that are all the same. -/
theorem toList_same {cs : Array Value} {z : Value} (m : Nat) {n : Nat} (hm : 0 < m) (h : cs = Array.replicate m z) : (madeCells cs n).toList = List.replicate n z := by
  subst h
  apply List.ext_getElem?
  intro j
  by_cases hj : j < n
  · have : j % m < m := Nat.mod_lt _ hm
    simp [madeCells, hj, this]
  · simp [madeCells, hj]
section
variable {H : Type} {enc : TypeId × Value → H} {P : Program} {w : World} {base : Nat} {spare : Nat → Bool} {held : Bool}
/-- The cells of a struct whose fields are all ints. -/
theorem cells_all {t ti : TypeId} {fs : Array Field} {fuel : Nat} {cs : List Value} {x : DataW H × List MemPlace} (hs : P.underlying t = some (.struct fs)) (ht : P.underlying ti = some (.int .i64)) (hone : Go.Deep.oneCellFields P fs = true)
    (hall : fs.all (fun f => f.type == ti) = true) (hC : P.cellsOf t = fs.size) (h : DataW.trod enc P w base spare held fuel t cs = some x) :
    ∃ zs : List Int, cs = intVals zs ∧ zs.length = fs.size ∧ ∀ z ∈ zs, (Lit.int .i64 z).wf = true := by
  obtain ⟨xs, m, _, _, hl, hlen, hg⟩ := DataW.trod_struct hs h
  rw [hC] at hl
  have key : ∀ i, i < fs.size → ∃ z, cs[i]? = some (.int .i64 z) ∧ (Lit.int .i64 z).wf = true := by
    intro i hi
    have hf : fs[i]? = some fs[i] := Array.getElem?_eq_getElem hi
    obtain ⟨ho, hk⟩ := Go.Deep.hone_of hone i fs[i] hf
    have htf : fs[i].type = ti := by
      have := Array.all_eq_true.1 hall i hi
      simpa using this
    have h1 := hg i fs[i] hf
    rw [ho, hk, htf, List.getElem?_eq_getElem (show i < xs.length by omega)] at h1
    obtain ⟨z, hz, _, hw⟩ := DataW.trod_int ht h1
    refine ⟨z, ?_, hw⟩
    have e : ((cs.drop i).take 1)[0]? = some (.int .i64 z) := by rw [hz]; rfl
    simpa [List.getElem?_take, List.getElem?_drop] using e
  refine ⟨cs.map fun v => match v with | .int _ z => z | _ => 0, ?_, by rw [List.length_map, hl], ?_⟩
  · apply List.ext_getElem?
    intro i
    by_cases hi : i < fs.size
    · obtain ⟨z, hz, _⟩ := key i hi
      simp [intVals, hz]
    · simp [intVals, List.getElem?_eq_none (show cs.length ≤ i by omega)]
  · intro z hz
    obtain ⟨v, hv, rfl⟩ := List.mem_map.1 hz
    obtain ⟨i, hi, rfl⟩ := List.mem_iff_getElem.1 hv
    obtain ⟨z, hz', hw⟩ := key i (by omega)
    rw [List.getElem?_eq_getElem hi] at hz'
    injection hz' with hz'
    rw [hz']
    exact hw
/-- A slice of structs of m ints, as the frame of a law reads it. -/
theorem slice_all {fuel : Nat} {t e ti : TypeId} {fs : Array Field} (m : Nat) {vs : List Value} {x : DataW H × List MemPlace} (hsl : P.underlying t = some (.slice e)) (hs : P.underlying e = some (.struct fs)) (ht : P.underlying ti = some (.int .i64)) (hone : Go.Deep.oneCellFields P fs = true)
    (hall : fs.all (fun f => f.type == ti) = true) (hC : P.cellsOf e = fs.size) (hm : fs.size = m) (h : DataW.trod enc P w base spare held fuel t vs = some x) :
    ∃ (A : Option Addr) (n c : Nat) (zs : List Int), vs = [.slice A n c] ∧ Ints w A zs ∧ zs.length = n * m ∧ n ≤ 9223372036854775807 ∧ ∀ z ∈ zs, (Lit.int .i64 z).wf = true := by
  rcases Go.Deep.open_slice hsl h with ⟨hcs, _⟩ | ⟨x, len, cap, q, n, D, Pl, hcs, hb, hlc, hq, hqq, hx, hi⟩
  · exact ⟨none, 0, 0, [], hcs, Ints.nil _ _, by simp, by omega, fun z hz => by simp at hz⟩
  · refine ⟨some x, len, cap, ?_⟩
    have hlm : len ≤ q := by rw [hqq]; split <;> omega
    have key : ∀ k, k ≤ len → ∃ zs : List Int, zs.length = k * m ∧ (∀ j, j < k * m → w.cell? (x.add j) = some (.int .i64 (zs.getD j 0))) ∧ ∀ z ∈ zs, (Lit.int .i64 z).wf = true := by
      intro k
      induction k with
      | zero => exact fun _ => ⟨[], by simp, fun j hj => by simp at hj, fun z hz => by simp at hz⟩
      | succ k ih =>
        intro hk
        obtain ⟨zs, hl, hc, hw⟩ := ih (by omega)
        obtain ⟨cs', hcs', htr⟩ := hi k (by omega)
        obtain ⟨ys, hy, hly, hwy⟩ := cells_all hs ht hone hall hC htr
        rw [hC, hm] at hcs'
        rw [hm] at hly
        obtain ⟨_, _, hcell⟩ := World.cells?_some hcs'
        have e1 : (k + 1) * m = k * m + m := by rw [Nat.add_mul, Nat.one_mul]
        refine ⟨zs ++ ys, by rw [List.length_append, hl, hly, e1], fun j hj => ?_, fun z hz => ?_⟩
        · rw [e1] at hj
          by_cases hjk : j < k * m
          · rw [hc j hjk, List.getD_eq_getElem?_getD, List.getD_eq_getElem?_getD, List.getElem?_append_left (by omega)]
          · rw [List.getD_eq_getElem?_getD, List.getElem?_append_right (by omega), hl, ← List.getD_eq_getElem?_getD]
            have h1 := hcell (j - k * m) (by omega)
            rw [Go.Deep.add_add, show k * m + (j - k * m) = j by omega, hy] at h1
            rw [h1]
            simp [intVals, List.getElem?_map, List.getD_eq_getElem?_getD, List.getElem?_eq_getElem (show j - k * m < ys.length by omega)]
        · rcases List.mem_append.1 hz with h | h
          · exact hw z h
          · exact hwy z h
    obtain ⟨zs, hl, hc, hw⟩ := key len (Nat.le_refl _)
    refine ⟨zs, hcs, ?_, hl, by unfold maxLen at hq; omega, hw⟩
    exact (Ints.of_row (w := w) (x := x) (len := len * m) (cap := len * m) (zs := zs) (Nat.le_refl _) hl (fun i hi => hc i (by omega))).1 |> fun h => by rwa [List.take_of_length_le (by omega)] at h
end
end Go.Proofs.Ytfpcjgolcbjnjaa

namespace Go.Proofs.Ytfpcjgolcbjnjaa
open Go Go.RowKit
set_option maxRecDepth 100000 in
theorem toGate_any (a0 a1 a2 : Int) (w : World) :
    Calls Try.prog 103 #[.agg #[.int .i64 a0, .int .i64 a1, .int .i64 a2]] w fun e w' => e = .returned (.agg #[.int .i64 a0, .int .i64 a1, .int .i64 a2]) ∧ Below w.heap.size w w' := by
  go_enter Try.func103, Try.ntmps103
  go_wp2_with fail
  go_returns
  exact ⟨rfl, low_alloc (low_alloc (below_alloc _ _) _) _⟩
set_option maxRecDepth 100000 in
theorem eqGate_any (a0 a1 a2 : Int) (w : World) :
    Calls Try.prog 104 #[.agg #[.int .i64 a0, .int .i64 a1, .int .i64 a2], .agg #[.int .i64 a0, .int .i64 a1, .int .i64 a2]] w fun e w' => e = .returned (.bool true) ∧ Below w.heap.size w w' := by
  go_enter Try.func104, Try.ntmps104
  go_wp2_with fail
  go_ret
  exact ⟨rfl, low_alloc (below_alloc _ _) _⟩
theorem szGateS_any (left : Nat) (A : Option Addr) (n c : Nat) (w : World) (hl : left ≤ 1048576) (hn : n ≤ 9223372036854775807) :
    Calls Try.prog 65 #[.slice A n c, .int .i64 (left : Int)] w fun e w' => e = .returned (.int .i64 (szRes left n)) ∧ w = w' := by
  by_cases h : n ≤ left
  · have e : szRes left n = (left : Int) - (n : Int) := by rw [szRes, if_pos h]; omega
    rw [e]
    clear e
    go_enter Try.func65, Try.ntmps65
    go_wp2_with fail
    go_ret
    exact ⟨rfl, rfl⟩
  · have e : szRes left n = -1 := by rw [szRes, if_neg h]
    rw [e]
    clear e
    go_enter Try.func65, Try.ntmps65
    go_wp2_with fail
    go_ret
    exact ⟨rfl, rfl⟩
theorem elemGate : Elem Try.prog 24 86 3 24 := ⟨Try.underlying24, by
  obtain ⟨i, hi, hz, h1, h2⟩ := info_parts (show (Try.prog.info? 86).map (fun i => (i.zero, i.size, i.bytes)) = some (some (.agg #[.int .i64 0, .int .i64 0, .int .i64 0]), 3, 24) by kernel_rfl)
  exact ⟨i, _, hi, hz, h1, h2, rfl⟩, by omega⟩
theorem makeGate {w : World} {ops : Array Oper} {rest : List Oper} {o : Oper} {a : Act} {Q : Exit → Act → World → Prop} (hgd : o.guard = none) (l c : Operand)
    (ho : o.op = Op.makeSlice 24 l c) (base : Nat) (kl kc : IntKind) (L C : Int) (n : Nat) (hl : a.eval l = .int kl L) (hc : a.eval c = .int kc C) (hL : L = (n : Int)) (hC : C = (n : Int)) (b2 : 24 * n ≤ 281474976710656) (b3 : n ≤ maxLen) (b4 : base ≤ w.heap.size)
    (h : ∀ w', w'.ownsRow base 86 3 (.slice (some ⟨w.heap.size, 0, none⟩) n n) n (List.replicate (n * 3) (.int .i64 0)) → w.grownBy w' none → wpList Try.prog ops Q rest (a.put o.dst (.slice (some ⟨w.heap.size, 0, none⟩) n n)) w') :
    wpList Try.prog ops Q (o :: rest) a w := by
  obtain ⟨i, hi, hz, h1, h2⟩ := info_parts (show (Try.prog.info? 86).map (fun i => (i.zero, i.size, i.bytes)) = some (some (.agg #[.int .i64 0, .int .i64 0, .int .i64 0]), 3, 24) by kernel_rfl)
  refine wpList_make_full w hgd l c _ ho base 86 i _ 3 Try.underlying24 hi hz h1 kl kc L C n hl hc hL hC (by rw [h2]; exact b2) b3 b4 fun w' r1 r2 => h w' ?_ r2
  rw [show (Value.agg #[.int .i64 0, .int .i64 0, .int .i64 0]).cells = #[.int .i64 0, .int .i64 0, .int .i64 0] from rfl, toList_same (cs := #[.int .i64 0, .int .i64 0, .int .i64 0]) (z := .int .i64 0) 3 (by decide) rfl] at r1
  exact r1
set_option maxRecDepth 100000 in
set_option maxHeartbeats 1000000 in
theorem toGateS_own (A : Option Addr) (n c : Nat) (zs : List Int) (w : World) (hr : Ints w A zs) (hl : zs.length = n * 3) (hn : n ≤ 2000000) :
    Calls Try.prog 72 #[.slice A n c] w fun e w' => ∃ A' : Option Addr, e = .returned (.slice A' n n) ∧ OwnA 3 w.heap.size w'.heap.size w' (.slice A' n n) n zs ∧ Below w.heap.size w w' := by
  go_enter Try.func72, Try.ntmps72
  go_wp2_with (first | (refine makeGate rfl _ _ rfl w.heap.size _ _ _ _ n rfl rfl rfl rfl (by omega) (by unfold maxLen; omega) (Nat.le_refl _) ?_))
  intro w1 hown1 hg1
  have hb1 : Below w.heap.size w w1 := (Below.refl _ _).grown hg1 (Nat.le_refl _) (fun k h => by cases h)
  have Hown1 := Lib.hid hown1
  clear hown1 hg1
  go_wp2_with fail
  go_loopw [4] (fun i wr => ∃ k : Nat, k ≤ n ∧ i = .int .i64 k ∧ wr.ownsRow w.heap.size 86 3 (.slice (some ⟨w.heap.size, 0, none⟩) n n) n (partVals zs (n * 3) (k * 3)) ∧ Below w.heap.size w wr) (fun i _ => n - (intOf i).toNat)
  case atStart => exact ⟨0, Nat.zero_le _, rfl, by rw [Nat.zero_mul, partVals_zero]; exact Hown1.out, hb1⟩
  case round =>
    obtain ⟨k, hk, rfl, hown, hb⟩ := hrel
    by_cases hlt : k < n
    · have hin := Lib.hid (hr.bound.below hb)
      obtain ⟨g, o, rfl, hbl, q0⟩ := (hin.out).at_ (j := k * 3) (by rw [hl]; omega)
      obtain ⟨_, _, e1, _, q1⟩ := (hin.out).at_ (j := k * 3 + 1) (by rw [hl]; omega)
      injection e1 with e1; injection e1 with e11 e12; subst e11 e12
      rw [← Nat.add_assoc] at q1
      obtain ⟨_, _, e1, _, q2⟩ := (hin.out).at_ (j := k * 3 + 2) (by rw [hl]; omega)
      injection e1 with e1; injection e1 with e11 e12; subst e11 e12
      rw [← Nat.add_assoc] at q2
      obtain ⟨x0, hx0⟩ : ∃ x, zs.getD (k * 3) 0 = x := ⟨_, rfl⟩
      rw [hx0] at q0
      obtain ⟨x1, hx1⟩ : ∃ x, zs.getD (k * 3 + 1) 0 = x := ⟨_, rfl⟩
      rw [hx1] at q1
      obtain ⟨x2, hx2⟩ : ∃ x, zs.getD (k * 3 + 2) 0 = x := ⟨_, rfl⟩
      rw [hx2] at q2
      have Hown := Lib.hid hown
      have HSt : Hid (∀ w2 : World, w2.ownsRow w.heap.size 86 3 (.slice (some ⟨w.heap.size, 0, none⟩) n n) n (partVals zs (n * 3) (k * 3)) → (((w2.setCell ⟨w.heap.size, k * 3, none⟩ (.int .i64 x0)).setCell ⟨w.heap.size, k * 3 + 1, none⟩ (.int .i64 x1)).setCell ⟨w.heap.size, k * 3 + 2, none⟩ (.int .i64 x2)).ownsRow w.heap.size 86 3 (.slice (some ⟨w.heap.size, 0, none⟩) n n) n (partVals zs (n * 3) ((k + 1) * 3))) := fun w2 h0 => by
        have hk' : (k + 1) * 3 ≤ n * 3 := Nat.mul_le_mul_right _ hlt
        have h1 := (h0.stored (k * 3) (.int .i64 (zs.getD (k * 3) 0))).1
        rw [partVals_set hl (by omega), hx0] at h1
        have h2 := (h1.stored (k * 3 + 1) (.int .i64 (zs.getD (k * 3 + 1) 0))).1
        rw [partVals_set hl (by omega), hx1] at h2
        have h3 := (h2.stored (k * 3 + 2) (.int .i64 (zs.getD (k * 3 + 2) 0))).1
        rw [partVals_set hl (by omega), hx2] at h3
        rw [show (k + 1) * 3 = k * 3 + 2 + 1 by omega]
        exact h3
      have HC : Hid (∀ w2 : World, w2.ownsRow w.heap.size 86 3 (.slice (some ⟨w.heap.size, 0, none⟩) n n) n (partVals zs (n * 3) (k * 3)) → ∀ i, i < n * 3 → ∃ u, w2.cell? ⟨w.heap.size, i, none⟩ = some u ∧ w2.frozen? ⟨w.heap.size, i, none⟩ = false) :=
        fun w2 h2 i hi => ⟨_, (h2.cellAt i hi).trans (List.getElem?_eq_getElem (by rw [h2.1]; exact hi)), h2.frozenAt i⟩
      have hk0 : (0 : Int) ≤ k := by omega
      have hk1 : (k : Int) < n := by omega
      clear hown hr Hown1 hin hx0 hx1 hx2
      go_wp2_with fail
      refine (toGate_any _ _ _ _).mono ?_
      rintro e w2 ⟨rfl, hb2⟩
      have hown2 := own_below Hown.out hb2
      have hb3 := hb.trans (hb2.mono hb.size)
      obtain ⟨u0, r0, f0⟩ := HC.out w2 hown2 (k * 3) (by omega)
      obtain ⟨u1, r1, f1⟩ := HC.out w2 hown2 (k * 3 + 1) (by omega)
      obtain ⟨u2, r2, f2⟩ := HC.out w2 hown2 (k * 3 + 2) (by omega)
      have Hst2 := Lib.hid (HSt.out w2 hown2)
      clear hown2 HC HSt Hown hb hb2
      go_wp2_with fail
      go_roundw
      case rel => exact ⟨k + 1, by omega, by go_num, Hst2.out, (((hb3.setCell (Nat.le_refl _) _).setCell (Nat.le_refl _) _).setCell (Nat.le_refl _) _)⟩
      case measure => simp [intOf]; omega
    · obtain rfl : k = n := by omega
      rw [partVals_all hl] at hown
      go_wp2_with fail
      go_ret
      exact ⟨_, rfl, OwnA.of_own hown, hb⟩
set_option maxRecDepth 100000 in
set_option maxHeartbeats 1000000 in
theorem eqGateS_same (n m c1 c2 : Nat) (A B : Option Addr) (xs ys : List Int) (w : World) (ha : Ints w A xs) (hb : Ints w B ys) (he : xs = ys) (hl : xs.length = n * 3) (hm : ys.length = m * 3) (hn : n ≤ 1000000000000) :
    Calls Try.prog 73 #[.slice A n c1, .slice B m c2] w fun e w' => e = .returned (.bool true) ∧ Below w.heap.size w w' := by
  subst he
  obtain rfl : n = m := by omega
  clear hm
  go_enter Try.func73, Try.ntmps73
  go_wp2_with fail
  go_loopw [5] (fun i wr => ∃ k : Nat, k ≤ n ∧ i = .int .i64 k ∧ Below w.heap.size w wr) (fun i _ => n - (intOf i).toNat)
  case atStart => exact ⟨0, Nat.zero_le _, rfl, Below.refl _ _⟩
  case round =>
    obtain ⟨k, hk, rfl, hlow⟩ := hrel
    by_cases hlt : k < n
    · have hin := Lib.hid (ha.bound.below hlow)
      have hio := Lib.hid (hb.bound.below hlow)
      obtain ⟨g, o, rfl, _, q0⟩ := (hin.out).at_ (j := k * 3) (by rw [hl]; omega)
      obtain ⟨_, _, e1, _, q1⟩ := (hin.out).at_ (j := k * 3 + 1) (by rw [hl]; omega)
      injection e1 with e1; injection e1 with e11 e12; subst e11 e12
      rw [← Nat.add_assoc] at q1
      obtain ⟨_, _, e1, _, q2⟩ := (hin.out).at_ (j := k * 3 + 2) (by rw [hl]; omega)
      injection e1 with e1; injection e1 with e11 e12; subst e11 e12
      rw [← Nat.add_assoc] at q2
      obtain ⟨g', o', rfl, _, r0⟩ := (hio.out).at_ (j := k * 3) (by rw [hl]; omega)
      obtain ⟨_, _, e1, _, r1⟩ := (hio.out).at_ (j := k * 3 + 1) (by rw [hl]; omega)
      injection e1 with e1; injection e1 with e11 e12; subst e11 e12
      rw [← Nat.add_assoc] at r1
      obtain ⟨_, _, e1, _, r2⟩ := (hio.out).at_ (j := k * 3 + 2) (by rw [hl]; omega)
      injection e1 with e1; injection e1 with e11 e12; subst e11 e12
      rw [← Nat.add_assoc] at r2
      generalize xs.getD (k * 3) 0 = x0 at q0 r0
      generalize xs.getD (k * 3 + 1) 0 = x1 at q1 r1
      generalize xs.getD (k * 3 + 2) 0 = x2 at q2 r2
      have k0 : (0 : Int) ≤ k := by omega
      have k1 : (k : Int) < n := by omega
      clear ha hb hin hio
      go_wp2_with fail
      go_region_with (first | (go_at_call 104; refine (eqGate_any _ _ _ _).mono ?_; rintro e w2 ⟨rfl, hb2⟩))
      all_goals
        have hlow2 := hlow.drew.trans (hb2.mono hlow.size)
        clear hb2 hlow q0 q1 q2 r0 r1 r2
        go_wp2_with fail
        go_roundw
        case rel => exact ⟨k + 1, by omega, by go_num, hlow2⟩
        case measure => simp [intOf]; omega
    · obtain rfl : k = n := by omega
      clear ha hb
      go_wp2_with fail
      go_ret
      exact ⟨rfl, hlow⟩
set_option maxRecDepth 100000 in
set_option maxHeartbeats 1000000 in
theorem markGateS_ownA (lo hi n k : Nat) (v : Value) (zs : List Int) (w : World) (h : OwnA 3 lo hi w v n zs) (hn : n * 3 + k ≤ 1000000000) :
    Calls Try.prog 74 #[v, .int .i64 (k : Int)] w fun e w' => e = .returned (.int .i64 ((k + n * 3 : Nat) : Int)) ∧ OwnA 3 lo hi w' v n (markInts k (n * 3)) ∧ w.grownBy w' v.ownBlock := by
  obtain ⟨te, hown⟩ := h.own
  have htop := Lib.hid h.top
  clear h
  obtain ⟨A, m, cp, rfl, rfl⟩ := ownsRow_slice hown
  go_enter Try.func74, Try.ntmps74
  go_wp2_with fail
  go_loopw [1, 5] (fun a i wr => ∃ (j K : Nat) (ys : List Value), j ≤ n ∧ a = .int .i64 (K : Int) ∧ i = .int .i64 j ∧ Hid (K = k + j * 3) ∧ wr.ownsRow lo te 3 (.slice A n cp) n ys ∧ Hid (∀ i, i < j * 3 → ys[i]? = some (.int .i64 ((k + i : Nat) : Int))) ∧ w.grownBy wr (Value.slice A n cp).ownBlock) (fun _ i _ => n - (intOf i).toNat)
  case atStart => exact ⟨0, k, intVals zs, Nat.zero_le _, rfl, rfl, (show k = k + 0 * 3 by omega), hown, (show ∀ i, i < 0 * 3 → _ from fun i hi => by omega), World.grownBy.refl w _⟩
  case round =>
    obtain ⟨j, K, ys, hj, rfl, rfl, hK, hown, hys, hgr⟩ := hrel
    have hyl : ys.length = n * 3 := hown.1
    by_cases hlt : j < n
    · obtain ⟨g, rfl, hg, hgl⟩ := own_addr hown (by omega)
      have hc : ∀ i, i < 3 → ∃ u, wr.cell? ⟨g, j * 3 + i, none⟩ = some u ∧ wr.frozen? ⟨g, j * 3 + i, none⟩ = false := fun i hi => ⟨_, (hown.cellAt (j * 3 + i) (by omega)).trans (List.getElem?_eq_getElem (by omega)), hown.frozenAt _⟩
      obtain ⟨u0, c0, f0⟩ := hc 0 (by omega)
      obtain ⟨u1, c1, f1⟩ := hc 1 (by omega)
      obtain ⟨u2, c2, f2⟩ := hc 2 (by omega)
      rw [Nat.add_zero] at c0 f0
      have s0 := hown.stored (j * 3) (.int .i64 ((K : Int)))
      have s1 := s0.1.stored (j * 3 + 1) (.int .i64 ((K : Int) + 1))
      have s2 := s1.1.stored (j * 3 + 2) (.int .i64 ((K : Int) + 1 + 1))
      have Hgr2 := Lib.hid (((hgr.trans s0.2).trans s1.2).trans s2.2)
      have Hys := Lib.hid (show ∀ i, i < (j + 1) * 3 → (((ys.set (j * 3) (Value.int .i64 ((K : Int)))).set (j * 3 + 1) (Value.int .i64 ((K : Int) + 1))).set (j * 3 + 2) (Value.int .i64 ((K : Int) + 1 + 1)))[i]? = some (.int .i64 ((k + i : Nat) : Int)) from fun i hi => by
        have e0 := hK.out
        rw [get_at (by simp only [List.length_set]; omega), get_at (by simp only [List.length_set]; omega), get_at (by omega)]
        split
        · subst_vars; congr 2 <;> omega
        · skip
          split
          · subst_vars; congr 2 <;> omega
          · skip
            split
            · subst_vars; congr 2 <;> omega
            · exact hys.out i (by omega))
      have Hst := Lib.hid s2.1
      have hK2 : K ≤ 1000000000 := by have := hK.out; omega
      have hj0 : (0 : Int) ≤ j := by omega
      have hj1 : (j : Int) < n := by omega
      clear s0 s1 s2 hown hyl hys hgr hc
      go_wp2_with fail
      go_roundw
      case rel => exact ⟨j + 1, K + 3, _, by omega, by go_num, by go_num, (show K + 3 = k + (j + 1) * 3 from by have := hK.out; omega), Hst.out, Hys.out, Hgr2.out⟩
      case measure => simp [intOf] <;> omega
    · obtain rfl : j = n := by omega
      have hm := markInts_of hyl hys.out
      have hfin := hK.out
      subst hm hfin
      have Hown := Lib.hid hown
      have Hgr := Lib.hid hgr
      clear hown hys hyl hgr
      go_wp2_with fail
      go_ret
      exact ⟨by first | rfl | simp, ⟨⟨te, Hown.out⟩, htop.out⟩, Hgr.out⟩
end Go.Proofs.Ytfpcjgolcbjnjaa

namespace Go.Proofs.Ytfpcjgolcbjnjaa
open Go Go.RowKit
/-- A struct Circuit of the call's own: its slices lie in blocks from lo on and below hi, each in its own. -/
structure OwnCircuit (lo hi : Nat) (w : World) (v0 v1 : Value) (n0 n1 : Nat) (z0 z1 : List Int) : Prop where
  o0 : OwnA 3 lo hi w v0 n0 z0
  o1 : OwnA 1 lo hi w v1 n1 z1
  a01 : apart v0 v1
section
variable {w w1 : World} {lo hi lo' hi' : Nat} {v0 v1 : Value} {n0 n1 : Nat} {z0 z1 : List Int}
theorem OwnCircuit.mid (h : OwnCircuit lo hi w v0 v1 n0 n1 z0 z1) (k : Mid lo' hi' w w1) (hd : hi ≤ lo' ∨ hi' ≤ lo) : OwnCircuit lo hi w1 v0 v1 n0 n1 z0 z1 := ⟨h.o0.mid k hd, h.o1.mid k hd, h.a01⟩
theorem OwnCircuit.below (h : OwnCircuit lo hi w v0 v1 n0 n1 z0 z1) (hb : Below w.heap.size w w1) : OwnCircuit lo hi w1 v0 v1 n0 n1 z0 z1 := ⟨h.o0.below hb, h.o1.below hb, h.a01⟩
theorem OwnCircuit.alloc (h : OwnCircuit lo hi w v0 v1 n0 n1 z0 z1) (o : Obj) : OwnCircuit lo hi (w.alloc o) v0 v1 n0 n1 z0 z1 := h.below ((Below.refl _ _).alloc (Nat.le_refl _) _)
theorem OwnCircuit.wide (h : OwnCircuit lo hi w v0 v1 n0 n1 z0 z1) (h1 : lo' ≤ lo) (h2 : hi ≤ hi') : OwnCircuit lo' hi' w v0 v1 n0 n1 z0 z1 := ⟨h.o0.wide h1 h2, h.o1.wide h1 h2, h.a01⟩
theorem OwnCircuit.drew (h : OwnCircuit lo hi w v0 v1 n0 n1 z0 z1) : OwnCircuit lo hi w.drew v0 v1 n0 n1 z0 z1 := ⟨h.o0.drew, h.o1.drew, h.a01⟩
theorem OwnCircuit.drewN (h : OwnCircuit lo hi w v0 v1 n0 n1 z0 z1) (k : Nat) : OwnCircuit lo hi (w.drewN k) v0 v1 n0 n1 z0 z1 := ⟨h.o0.drewN k, h.o1.drewN k, h.a01⟩
theorem OwnCircuit.setFar {g i : Nat} (h : OwnCircuit lo hi w v0 v1 n0 n1 z0 z1) (hg : g < lo) (u : Value) : OwnCircuit lo hi (w.setCell ⟨g, i, none⟩ u) v0 v1 n0 n1 z0 z1 := ⟨h.o0.setFar hg u, h.o1.setFar hg u, h.a01⟩
theorem OwnCircuit.setFar' {g i : Nat} (h : OwnCircuit lo hi w v0 v1 n0 n1 z0 z1) (hg : hi ≤ g) (u : Value) : OwnCircuit lo hi (w.setCell ⟨g, i, none⟩ u) v0 v1 n0 n1 z0 z1 := ⟨h.o0.setFar' hg u, h.o1.setFar' hg u, h.a01⟩
theorem OwnCircuit.nil (lo hi : Nat) (w : World) : OwnCircuit lo hi w (.slice none 0 0) (.slice none 0 0) 0 0 [] [] := ⟨OwnA.nil _ _ _ _, OwnA.nil _ _ _ _, apart.nil _ _ _⟩
end
/-- A struct Circuit in new memory. -/
def Post_Circuit (z0 : List Int) (z1 : List Int) (w : World) (e : Ending) (w' : World) : Prop :=
  ∃ (A0 A1 : Option Addr) (n0 n1 c0 c1 : Nat), e = .returned (.agg #[.slice A0 n0 c0, .slice A1 n1 c1]) ∧ OwnCircuit w.heap.size w'.heap.size w' (.slice A0 n0 c0) (.slice A1 n1 c1) n0 n1 z0 z1 ∧ Below w.heap.size w w'
/-- A struct Circuit that a call made, and the box that holds it: all new since W. -/
structure BxdCircuit (W wx : World) (p lo hi : Nat) (A0 A1 : Option Addr) (n0 n1 c0 c1 : Nat) (z0 : List Int) (z1 : List Int) : Prop where
  own : OwnCircuit lo hi wx (.slice A0 n0 c0) (.slice A1 n1 c1) n0 n1 z0 z1
  box : wx.heap[p]? = some (.cells #[.slice A0 n0 c0, .slice A1 n1 c1] 27 (0, 0))
  at_ : W.heap.size ≤ lo ∧ hi ≤ wx.heap.size ∧ W.heap.size ≤ p ∧ p < wx.heap.size ∧ (p < lo ∨ hi ≤ p)
  low : Below W.heap.size W wx
section
variable {W w w' : World} {A0 A1 : Option Addr} {n0 n1 c0 c1 p : Nat} {z0 z1 : List Int} {u : Array Value}
theorem BxdCircuit.last (o : OwnCircuit w.heap.size w'.heap.size w' (.slice A0 n0 c0) (.slice A1 n1 c1) n0 n1 z0 z1) (hl : Below W.heap.size W w') (hw : W.heap.size ≤ w.heap.size) :
    BxdCircuit W (w'.alloc (.cells #[.slice A0 n0 c0, .slice A1 n1 c1] 27)) w'.heap.size w.heap.size w'.heap.size A0 A1 n0 n1 c0 c1 z0 z1 :=
  ⟨o.alloc _, heap_alloc_new w' _, ⟨hw, by simp, hl.size, by simp, .inr (Nat.le_refl _)⟩, hl.alloc hl.size _⟩
theorem BxdCircuit.early (o : OwnCircuit w.heap.size w'.heap.size w' (.slice A0 n0 c0) (.slice A1 n1 c1) n0 n1 z0 z1) (hl : Below W.heap.size W w') (hw : W.heap.size ≤ w.heap.size) (hb : w'.heap[p]? = some (.cells #[.slice none 0 0, .slice none 0 0] 27 (0, 0))) (hp : p < w.heap.size) (hW : W.heap.size ≤ p) :
    BxdCircuit W ((w'.setCell ⟨p, 0, none⟩ (.slice A0 n0 c0)).setCell ⟨p, 1, none⟩ (.slice A1 n1 c1)) p w.heap.size w'.heap.size A0 A1 n0 n1 c0 c1 z0 z1 :=
  ⟨((o.setFar (g := p) (i := 0) hp _).setFar (g := p) (i := 1) hp _), (heap_set (i := 1) (heap_set (i := 0) hb (.slice A0 n0 c0)) (.slice A1 n1 c1)), ⟨hw, by simp, hW, by have := heap_lt hb; simpa using this, .inl hp⟩, ((hl.setCell (p := ⟨p, 0, none⟩) hW _).setCell (p := ⟨p, 1, none⟩) hW _)⟩
end
theorem toCircuit_own (A0 A1 : Option Addr) (c0 c1 : Nat) (n0 n1 : Nat) (z0 z1 : List Int) (w : World) (h0 : Ints w A0 z0) (l0 : z0.length = n0 * 3) (m0 : n0 ≤ 2000000) (h1 : Ints w A1 z1) (l1 : z1.length = n1) (m1 : n1 ≤ 2000000) :
    Calls Try.prog 24 #[.agg #[.slice A0 n0 c0, .slice A1 n1 c1]] w fun e w' => ∃ B0 B1, e = .returned (.agg #[.slice B0 n0 n0, .slice B1 n1 n1]) ∧ OwnCircuit w.heap.size w'.heap.size w' (.slice B0 n0 n0) (.slice B1 n1 n1) n0 n1 z0 z1 ∧ Below w.heap.size w w' := by
  have L0 := Lib.hid l0
  have L1 := Lib.hid l1
  clear l0 l1
  have k0 := Bx3.start w 52 #[.slice A0 n0 c0, .slice A1 n1 c1] 27 #[.slice none 0 0, .slice none 0 0] 27 #[.slice none 0 0, .slice none 0 0]
  go_enter Try.func24, Try.ntmps24
  go_wp2_with fail
  generalize hw0 : ((w.alloc (.cells #[.slice A0 n0 c0, .slice A1 n1 c1] 52)).alloc (.cells #[.slice none 0 0, .slice none 0 0] 27)).alloc (.cells #[.slice none 0 0, .slice none 0 0] 27) = w0 at *
  obtain ⟨g0, _⟩ := blk (i := 0) k0.two.arg rfl
  obtain ⟨g1, _⟩ := blk (i := 1) k0.two.arg rfl
  obtain ⟨o0, f0⟩ := blk (i := 0) k0.out rfl
  obtain ⟨o1, f1⟩ := blk (i := 1) k0.out rfl
  clear hw0
  go_wp2_with fail
  refine (toGateS_own A0 n0 c0 z0 w0 ((h0.bound.below k0.two.low).ints k0.two.low.size) L0.out m0).mono ?_
  rintro e u0 ⟨B0, rfl, p0, hb⟩
  have y0 := k0.next hb
  have s0 := k0.lt
  have p0' : OwnA 3 _ _ (u0.setCell ⟨w.heap.size + 1 + 1, 0, none⟩ (.slice B0 n0 n0)) _ _ _ := (p0.setFar (by omega) _)
  have k1 := (y0.setOut 0 (.slice B0 n0 n0)).is (rs' := #[.slice none 0 0, .slice none 0 0]) (ts' := #[.slice B0 n0 n0, .slice none 0 0]) rfl rfl
  have t0 := hb.size
  clear p0 g0 g1 o0 o1 f0 f1
  have p0 := p0'
  clear p0'
  obtain ⟨g0, _⟩ := blk (i := 0) y0.two.arg rfl
  obtain ⟨g1, _⟩ := blk (i := 1) y0.two.arg rfl
  obtain ⟨o0, f0⟩ := blk (i := 0) y0.out rfl
  obtain ⟨o1, f1⟩ := blk (i := 1) y0.out rfl
  have H0 := Lib.hid p0
  clear p0
  have Y1 := Lib.hid k1
  clear k1 k0 y0 hb
  go_wp2_with fail
  have p0 := H0.out
  clear H0
  have k1 := Y1.out
  clear Y1
  have i0 : u0.heap.size ≤ (u0.setCell ⟨w.heap.size + 1 + 1, 0, none⟩ (.slice B0 n0 n0)).heap.size := by simp
  have j0 : (u0.setCell ⟨w.heap.size + 1 + 1, 0, none⟩ (.slice B0 n0 n0)).heap.size ≤ u0.heap.size := by simp
  generalize (u0.setCell ⟨w.heap.size + 1 + 1, 0, none⟩ (.slice B0 n0 n0)) = w1 at *
  refine (toIntS_own A1 n1 c1 z1 w1 ((h1.bound.below k1.two.low).ints k1.two.low.size) L1.out m1).mono ?_
  rintro e u1 ⟨B1, rfl, p1, hb⟩
  have y1 := k1.next hb
  have s1 := k1.lt
  have p0' : OwnA 3 _ _ (((u1.setCell ⟨w.heap.size + 1 + 1, 1, none⟩ (.slice B1 n1 n1)).setCell ⟨w.heap.size + 1, 0, none⟩ (.slice B0 n0 n0)).setCell ⟨w.heap.size + 1, 1, none⟩ (.slice B1 n1 n1)) _ _ _ := ((((p0.below hb).setFar (by omega) _).setFar (by omega) _).setFar (by omega) _)
  have p1' : OwnA 1 _ _ (((u1.setCell ⟨w.heap.size + 1 + 1, 1, none⟩ (.slice B1 n1 n1)).setCell ⟨w.heap.size + 1, 0, none⟩ (.slice B0 n0 n0)).setCell ⟨w.heap.size + 1, 1, none⟩ (.slice B1 n1 n1)) _ _ _ := (((p1.any.setFar (by omega) _).setFar (by omega) _).setFar (by omega) _)
  have k2 := (((y1.setOut 1 (.slice B1 n1 n1)).setRes 0 (.slice B0 n0 n0)).setRes 1 (.slice B1 n1 n1)).is (rs' := #[.slice B0 n0 n0, .slice B1 n1 n1]) (ts' := #[.slice B0 n0 n0, .slice B1 n1 n1]) rfl rfl
  have t1 := hb.size
  clear p0 p1 g0 g1 o0 o1 f0 f1
  have p0 := p0'
  have p1 := p1'
  clear p0' p1'
  obtain ⟨g0, _⟩ := blk (i := 0) y1.two.arg rfl
  obtain ⟨g1, _⟩ := blk (i := 1) y1.two.arg rfl
  obtain ⟨o0, f0⟩ := blk (i := 0) y1.out rfl
  obtain ⟨o1, f1⟩ := blk (i := 1) y1.out rfl
  obtain ⟨_, e0⟩ := blk (i := 0) y1.two.res rfl
  obtain ⟨_, e1⟩ := blk (i := 1) y1.two.res rfl
  have H0 := Lib.hid p0
  have H1 := Lib.hid p1
  clear p0 p1
  have Y2 := Lib.hid k2
  clear k2 k1 y1 hb
  go_wp2_with fail
  have p0 := H0.out
  have p1 := H1.out
  clear H0 H1
  have k2 := Y2.out
  clear Y2
  have i1 : u1.heap.size ≤ (((u1.setCell ⟨w.heap.size + 1 + 1, 1, none⟩ (.slice B1 n1 n1)).setCell ⟨w.heap.size + 1, 0, none⟩ (.slice B0 n0 n0)).setCell ⟨w.heap.size + 1, 1, none⟩ (.slice B1 n1 n1)).heap.size := by simp
  have j1 : (((u1.setCell ⟨w.heap.size + 1 + 1, 1, none⟩ (.slice B1 n1 n1)).setCell ⟨w.heap.size + 1, 0, none⟩ (.slice B0 n0 n0)).setCell ⟨w.heap.size + 1, 1, none⟩ (.slice B1 n1 n1)).heap.size ≤ u1.heap.size := by simp
  generalize (((u1.setCell ⟨w.heap.size + 1 + 1, 1, none⟩ (.slice B1 n1 n1)).setCell ⟨w.heap.size + 1, 0, none⟩ (.slice B0 n0 n0)).setCell ⟨w.heap.size + 1, 1, none⟩ (.slice B1 n1 n1)) = w2 at *
  (try simp only [Exit.inBlock, Exit.then])
  refine bodyPost_ret (results_cell_row (P := Try.prog) rfl _ _ (w.heap.size + 1) 27 _ (0, 0) _ rfl k2.two.res Try.underlying27 rfl (by kernel_rfl)) rfl ?_
  exact ⟨_, _, rfl, ⟨p0.wide (by omega) (by omega), p1.wide (by omega) (by omega), p0.apart_of p1 (by omega)⟩, k2.two.low⟩
theorem eqCircuit_same (A0 A1 : Option Addr) (c0 c1 : Nat) (B0 B1 : Option Addr) (d0 d1 : Nat) (n0 n1 : Nat) (z0 z1 : List Int) (w : World) (h0 : Ints w A0 z0) (k0 : Ints w B0 z0) (l0 : z0.length = n0 * 3) (m0 : n0 ≤ 2000000) (h1 : Ints w A1 z1) (k1 : Ints w B1 z1) (l1 : z1.length = n1) (m1 : n1 ≤ 2000000) :
    Calls Try.prog 26 #[.agg #[.slice A0 n0 c0, .slice A1 n1 c1], .agg #[.slice B0 n0 d0, .slice B1 n1 d1]] w fun e w' => e = .returned (.bool true) ∧ Below w.heap.size w w' := by
  have L0 := Lib.hid l0
  have L1 := Lib.hid l1
  clear l0 l1
  have q0 := Bx2.start w 27 #[.slice A0 n0 c0, .slice A1 n1 c1] 27 #[.slice B0 n0 d0, .slice B1 n1 d1]
  go_enter Try.func26, Try.ntmps26
  go_wp2_with fail
  generalize hw0 : (w.alloc (.cells #[.slice A0 n0 c0, .slice A1 n1 c1] 27)).alloc (.cells #[.slice B0 n0 d0, .slice B1 n1 d1] 27) = w0 at *
  clear hw0
  obtain ⟨g0, _⟩ := blk (i := 0) q0.arg rfl
  obtain ⟨o0, _⟩ := blk (i := 0) q0.res rfl
  obtain ⟨g1, _⟩ := blk (i := 1) q0.arg rfl
  obtain ⟨o1, _⟩ := blk (i := 1) q0.res rfl
  go_wp2_with fail
  refine (eqGateS_same n0 n0 c0 d0 A0 B0 z0 z0 w0 ((h0.bound.below q0.low).ints q0.low.size) ((k0.bound.below q0.low).ints q0.low.size) rfl L0.out L0.out (by omega)).mono ?_
  rintro e w1 ⟨rfl, hb⟩
  have q1 := q0.next hb
  clear hb g0 o0 g1 o1
  obtain ⟨g0, _⟩ := blk (i := 0) q1.arg rfl
  obtain ⟨o0, _⟩ := blk (i := 0) q1.res rfl
  obtain ⟨g1, _⟩ := blk (i := 1) q1.arg rfl
  obtain ⟨o1, _⟩ := blk (i := 1) q1.res rfl
  go_wp2_with fail
  refine (eqIntS_same n1 n1 c1 d1 A1 B1 z1 z1 w1 ((h1.bound.below q1.low).ints q1.low.size) ((k1.bound.below q1.low).ints q1.low.size) rfl L1.out L1.out (by omega)).mono ?_
  rintro e w2 ⟨rfl, hb⟩
  have q2 := q1.next hb
  clear hb g0 o0 g1 o1
  obtain ⟨g0, _⟩ := blk (i := 0) q2.arg rfl
  obtain ⟨o0, _⟩ := blk (i := 0) q2.res rfl
  obtain ⟨g1, _⟩ := blk (i := 1) q2.arg rfl
  obtain ⟨o1, _⟩ := blk (i := 1) q2.res rfl
  go_wp2_with fail
  go_ret
  exact ⟨rfl, q2.low⟩
theorem markCircuit_own (lo hi k : Nat) (A0 A1 : Option Addr) (c0 c1 : Nat) (n0 n1 : Nat) (z0 z1 : List Int) (w : World) (h : OwnCircuit lo hi w (.slice A0 n0 c0) (.slice A1 n1 c1) n0 n1 z0 z1) (hhi : hi ≤ w.heap.size) (hn : n0 * 3 + n1 + k ≤ 1000000000) :
    Calls Try.prog 27 #[.agg #[.slice A0 n0 c0, .slice A1 n1 c1], .int .i64 (k : Int)] w fun e w' => e = .returned (.int .i64 ((k + n0 * 3 + n1 : Nat) : Int)) ∧ OwnCircuit lo hi w' (.slice A0 n0 c0) (.slice A1 n1 c1) n0 n1 (markInts (k) (n0 * 3)) (markInts (k + n0 * 3) (n1)) ∧ Mid lo hi w w' ∧ Spare [.slice A0 n0 c0, .slice A1 n1 c1] w w' := by
  have b0 := heap_alloc_new w (.cells #[.slice A0 n0 c0, .slice A1 n1 c1] 27)
  have h0 := h.alloc (.cells #[.slice A0 n0 c0, .slice A1 n1 c1] 27)
  have m0 : Mid lo hi w (w.alloc (.cells #[.slice A0 n0 c0, .slice A1 n1 c1] 27)) := Mid.of_below ((Below.refl _ _).alloc (Nat.le_refl _) _) _ _
  have s0 : Spare [.slice A0 n0 c0, .slice A1 n1 c1] w (w.alloc (.cells #[.slice A0 n0 c0, .slice A1 n1 c1] 27)) := Spare.of_below ((Below.refl _ _).alloc (Nat.le_refl _) _)
  go_enter Try.func27, Try.ntmps27
  go_wp2_with fail
  generalize hw0 : w.alloc (.cells #[.slice A0 n0 c0, .slice A1 n1 c1] 27) = w0 at *
  clear hw0 h
  obtain ⟨g0, _⟩ := blk (i := 0) b0 rfl
  obtain ⟨g1, _⟩ := blk (i := 1) b0 rfl
  go_wp2_with fail
  refine (markGateS_ownA lo hi n0 (k) (.slice A0 n0 c0) z0 w0 h0.o0 (by omega)).mono ?_
  rintro e w1 ⟨rfl, p, hg⟩
  have b1 := heap_grown b0 hg (fun e => by have := p.top _ e; omega)
  have m1 := m0.trans (Mid.of_grown hg (fun g e => p.ltB e))
  have s1 := s0.grown m0.size hg (by simp)
  have h1 : OwnCircuit lo hi w1 (.slice A0 n0 c0) (.slice A1 n1 c1) n0 n1 (markInts (k) (n0 * 3)) z1 := ⟨p, h0.o1.keep hg h0.a01.symm, h0.a01⟩
  clear g0 g1 hg p h0 m0 b0 s0
  obtain ⟨g0, _⟩ := blk (i := 0) b1 rfl
  obtain ⟨g1, _⟩ := blk (i := 1) b1 rfl
  go_wp2_with fail
  refine (markIntS_ownA lo hi n1 (k + n0 * 3) (.slice A1 n1 c1) z1 w1 h1.o1 (by omega)).mono ?_
  rintro e w2 ⟨rfl, p, hg⟩
  have b2 := heap_grown b1 hg (fun e => by have := p.top _ e; omega)
  have m2 := m1.trans (Mid.of_grown hg (fun g e => p.ltB e))
  have s2 := s1.grown m1.size hg (by simp)
  have h2 : OwnCircuit lo hi w2 (.slice A0 n0 c0) (.slice A1 n1 c1) n0 n1 (markInts (k) (n0 * 3)) (markInts (k + n0 * 3) (n1)) := ⟨h1.o0.keep hg h1.a01, p, h1.a01⟩
  clear g0 g1 hg p h1 m1 b1 s1
  obtain ⟨g0, _⟩ := blk (i := 0) b2 rfl
  obtain ⟨g1, _⟩ := blk (i := 1) b2 rfl
  go_wp2_with fail
  go_ret
  exact ⟨ret_int (by simp; try omega), h2, m2, s2⟩
theorem szCircuit_any (left : Nat) (A0 A1 : Option Addr) (c0 c1 : Nat) (n0 n1 : Nat) (w : World) (hl : left ≤ 1048576) (l0 : n0 ≤ 9223372036854775807) (l1 : n1 ≤ 9223372036854775807) :
    Calls Try.prog 22 #[.agg #[.slice A0 n0 c0, .slice A1 n1 c1], .int .i64 (left : Int)] w (Sized left (n0 + n1) w) := by
  have b0 := heap_alloc_new w (.cells #[.slice A0 n0 c0, .slice A1 n1 c1] 52)
  have m0 : Below w.heap.size w (w.alloc (.cells #[.slice A0 n0 c0, .slice A1 n1 c1] 52)) := (Below.refl _ _).alloc (Nat.le_refl _) _
  go_enter Try.func22, Try.ntmps22
  go_wp2_with fail
  generalize hw0 : w.alloc (.cells #[.slice A0 n0 c0, .slice A1 n1 c1] 52) = w0 at *
  clear hw0
  obtain ⟨g0, _⟩ := blk (i := 0) b0 rfl
  obtain ⟨g1, _⟩ := blk (i := 1) b0 rfl
  go_wp2_with fail
  refine (szGateS_any (left) A0 n0 c0 w0 (by omega) l0).mono ?_
  rintro e w1 ⟨hr, rfl⟩
  by_cases hc0 : n0 ≤ left
  · obtain rfl := szRes_yes hr hc0
    go_wp2_with fail
    refine (szIntS_any (left - n0) A1 n1 c1 w0 (by omega) l1).mono ?_
    rintro e w1 ⟨hr, rfl⟩
    by_cases hc1 : n1 ≤ left - n0
    · obtain rfl := szRes_yes hr hc1
      go_wp2_with fail
      go_ret
      exact Sized.yes m0 (by omega)
    · obtain rfl := szRes_no hr hc1
      go_wp2_with fail
      go_ret
      exact Sized.no m0 (by omega)
  · obtain rfl := szRes_no hr hc0
    go_wp2_with fail
    go_ret
    exact Sized.no m0 (by omega)
end Go.Proofs.Ytfpcjgolcbjnjaa
