/- Lists of statements: how they lie in memory, the laws' copying and comparing of them. No condition. And what goes with it. -/
import Derived.Test.YtbbdmgomcpmhpaaProg
import Derived.Test.YtbbdmgomcpmhpaaB1
import Derived.Handy
import Derived.Deep.Slices
import Derived.Deep.Fields
import Derived.ChangeSame
import Derived.ChangeArms
namespace Go.Proofs.Ytbbdmgomcpmhpaa
open Go Go.RowKit
def s0 : St := ⟨0, 0, 0, 0, 0, 0⟩
/-- The numbers of a list of statements, one behind the other. -/
def flat (ss : List St) : List Int := match ss with
  | [] => []
  | s :: ss => s.op :: s.d :: s.a :: s.b :: s.c :: s.n :: flat ss
theorem flat_length (ss : List St) : (flat ss).length = ss.length * 6 := by
  induction ss with
  | nil => rfl
  | cons s ss ih => simp only [flat, List.length_cons, ih]; omega
theorem flat_append (ss ts : List St) : flat (ss ++ ts) = flat ss ++ flat ts := by
  induction ss with
  | nil => rfl
  | cons s ss ih => simp only [List.cons_append, flat, ih]
theorem flat_at (ss : List St) (j : Nat) (h : j < ss.length) : (flat ss).getD (j * 6) 0 = (ss.getD j s0).op ∧ (flat ss).getD (j * 6 + 1) 0 = (ss.getD j s0).d ∧ (flat ss).getD (j * 6 + 2) 0 = (ss.getD j s0).a ∧
    (flat ss).getD (j * 6 + 3) 0 = (ss.getD j s0).b ∧ (flat ss).getD (j * 6 + 4) 0 = (ss.getD j s0).c ∧ (flat ss).getD (j * 6 + 5) 0 = (ss.getD j s0).n := by
  induction ss generalizing j with
  | nil => simp at h
  | cons s ss ih =>
    cases j with
    | zero => exact ⟨rfl, rfl, rfl, rfl, rfl, rfl⟩
    | succ j =>
      have := ih j (by simpa using h)
      rw [show (j + 1) * 6 = j * 6 + 1 + 1 + 1 + 1 + 1 + 1 by omega]
      simpa [flat] using this
theorem cell6 {B : Nat} {w : World} {A : Option Addr} {ss : List St} {j : Nat} (h : IntsB B w A (flat ss)) (hj : j < ss.length) {op d a b c n : Int} (e : ss.getD j s0 = ⟨op, d, a, b, c, n⟩) :
    ∃ g o, A = some ⟨g, o, none⟩ ∧ g < B ∧ w.cell? ⟨g, o + j * 6, none⟩ = some (.int .i64 op) ∧ w.cell? ⟨g, o + j * 6 + 1, none⟩ = some (.int .i64 d) ∧ w.cell? ⟨g, o + j * 6 + 2, none⟩ = some (.int .i64 a) ∧
      w.cell? ⟨g, o + j * 6 + 3, none⟩ = some (.int .i64 b) ∧ w.cell? ⟨g, o + j * 6 + 4, none⟩ = some (.int .i64 c) ∧ w.cell? ⟨g, o + j * 6 + 5, none⟩ = some (.int .i64 n) := by
  have hl := flat_length ss
  obtain ⟨e0, e1, e2, e3, e4, e5⟩ := flat_at ss j hj
  rw [e] at e0 e1 e2 e3 e4 e5
  obtain ⟨g, o, hA, hb, hc⟩ := h (by omega)
  exact ⟨g, o, hA, hb, (hc (j * 6) (by omega)).trans (by rw [e0]), (hc (j * 6 + 1) (by omega)).trans (by rw [e1]), (hc (j * 6 + 2) (by omega)).trans (by rw [e2]), (hc (j * 6 + 3) (by omega)).trans (by rw [e3]), (hc (j * 6 + 4) (by omega)).trans (by rw [e4]), (hc (j * 6 + 5) (by omega)).trans (by rw [e5])⟩
set_option maxRecDepth 100000 in
theorem toStmt_any (op d a b c n : Int) (w : World) :
    Calls Try.prog 28 #[.agg #[.int .i64 op, .int .i64 d, .int .i64 a, .int .i64 b, .int .i64 c, .int .i64 n]] w fun e w' => e = .returned (.agg #[.int .i64 op, .int .i64 d, .int .i64 a, .int .i64 b, .int .i64 c, .int .i64 n]) ∧ Below w.heap.size w w' := by
  go_enter Try.func28, Try.ntmps28
  go_wp2_with fail
  go_returns
  exact ⟨rfl, low_alloc (low_alloc (below_alloc _ _) _) _⟩
set_option maxRecDepth 100000 in
theorem eqStmt_any (op d a b c n : Int) (w : World) :
    Calls Try.prog 34 #[.agg #[.int .i64 op, .int .i64 d, .int .i64 a, .int .i64 b, .int .i64 c, .int .i64 n], .agg #[.int .i64 op, .int .i64 d, .int .i64 a, .int .i64 b, .int .i64 c, .int .i64 n]] w fun e w' => e = .returned (.bool true) ∧ Below w.heap.size w w' := by
  go_enter Try.func34, Try.ntmps34
  go_wp2_with fail
  go_ret
  exact ⟨rfl, low_alloc (below_alloc _ _) _⟩
theorem szStmtS_any (left : Nat) (A : Option Addr) (n c : Nat) (w : World) (hl : left ≤ 1048576) (hn : n ≤ 9223372036854775807) :
    Calls Try.prog 5 #[.slice A n c, .int .i64 (left : Int)] w fun e w' => e = .returned (.int .i64 (szRes left n)) ∧ w = w' := by
  by_cases h : n ≤ left
  · have e : szRes left n = (left : Int) - (n : Int) := by rw [szRes, if_pos h]; omega
    rw [e]
    clear e
    go_enter Try.func5, Try.ntmps5
    go_wp2_with fail
    go_ret
    exact ⟨rfl, rfl⟩
  · have e : szRes left n = -1 := by rw [szRes, if_neg h]
    rw [e]
    clear e
    go_enter Try.func5, Try.ntmps5
    go_wp2_with fail
    go_ret
    exact ⟨rfl, rfl⟩
theorem toList_six (z : Value) (n : Nat) : (madeCells #[z, z, z, z, z, z] n).toList = List.replicate n z := by
  apply List.ext_getElem?
  intro j
  by_cases hj : j < n
  · have h6 : j % 6 = 0 ∨ j % 6 = 1 ∨ j % 6 = 2 ∨ j % 6 = 3 ∨ j % 6 = 4 ∨ j % 6 = 5 := by omega
    simp [madeCells, hj]
    rcases h6 with h | h | h | h | h | h <;> rw [h] <;> rfl
  · simp [madeCells, hj]
theorem elemStmt : Elem Try.prog 30 56 6 48 := ⟨Try.underlying30, by
  obtain ⟨i, hi, hz, h1, h2⟩ := info_parts (show (Try.prog.info? 56).map (fun i => (i.zero, i.size, i.bytes)) = some (some (.agg #[.int .i64 0, .int .i64 0, .int .i64 0, .int .i64 0, .int .i64 0, .int .i64 0]), 6, 48) by kernel_rfl)
  exact ⟨i, _, hi, hz, h1, h2, rfl⟩, by omega⟩
theorem make_fullS {w : World} {ops : Array Oper} {rest : List Oper} {o : Oper} {a : Act} {Q : Exit → Act → World → Prop} (hgd : o.guard = none) (l c : Operand)
    (ho : o.op = Op.makeSlice 30 l c) (base : Nat) (kl kc : IntKind) (L C : Int) (n : Nat) (hl : a.eval l = .int kl L) (hc : a.eval c = .int kc C) (hL : L = (n : Int)) (hC : C = (n : Int)) (b2 : 48 * n ≤ 281474976710656) (b3 : n ≤ maxLen) (b4 : base ≤ w.heap.size)
    (h : ∀ w', w'.ownsRow base 56 6 (.slice (some ⟨w.heap.size, 0, none⟩) n n) n (List.replicate (n * 6) (.int .i64 0)) → w.grownBy w' none → wpList Try.prog ops Q rest (a.put o.dst (.slice (some ⟨w.heap.size, 0, none⟩) n n)) w') :
    wpList Try.prog ops Q (o :: rest) a w := by
  obtain ⟨i, hi, hz, h1, h2⟩ := info_parts (show (Try.prog.info? 56).map (fun i => (i.zero, i.size, i.bytes)) = some (some (.agg #[.int .i64 0, .int .i64 0, .int .i64 0, .int .i64 0, .int .i64 0, .int .i64 0]), 6, 48) by kernel_rfl)
  refine wpList_make_full w hgd l c _ ho base 56 i _ 6 Try.underlying30 hi hz h1 kl kc L C n hl hc hL hC (by rw [h2]; exact b2) b3 b4 fun w' r1 r2 => h w' ?_ r2
  rw [show (Value.agg #[.int .i64 0, .int .i64 0, .int .i64 0, .int .i64 0, .int .i64 0, .int .i64 0]).cells = #[.int .i64 0, .int .i64 0, .int .i64 0, .int .i64 0, .int .i64 0, .int .i64 0] from rfl, toList_six] at r1
  exact r1
/-- A list of statements of the call's own. -/
def OwnS (lo : Nat) (w : World) (v : Value) (n : Nat) (ss : List St) : Prop := w.ownsRow lo 56 6 v n (intVals (flat ss))
theorem OwnS.ints {w : World} {base n c : Nat} {A : Option Addr} {ss : List St} (h : OwnS base w (.slice A n c) n ss) : Ints w A (flat ss) ∧ ss.length = n := by
  have hl : ss.length = n := by have := h.1; rw [intVals_length, flat_length] at this; omega
  refine ⟨fun h0 => ?_, hl⟩
  rcases h.2 with ⟨he, h1⟩ | ⟨g, cap, cur, he, hg, hh, _⟩
  · simp [flat_length] at h0; omega
  · injection he with he1 he2 he3
    subst he1 he3
    refine ⟨g, 0, rfl, (Array.getElem?_eq_some_iff.1 hh).1, fun j hj => ?_⟩
    have hj' : j < n * 6 := by rw [flat_length] at hj; omega
    have := h.cellAt j hj'
    rw [Nat.zero_add, this]
    simp [intVals, List.getElem?_map, List.getD_eq_getElem?_getD, List.getElem?_eq_getElem hj]
theorem six_row {w : World} {base g n c : Nat} {zs : List Int} {k : Nat} {a0 a1 a2 a3 a4 a5 : Int} (h : w.ownsRow base 56 6 (.slice (some ⟨g, 0, none⟩) n c) n (partVals zs (n * 6) (k * 6))) (hl : zs.length = n * 6) (hk : k < n)
    (e0 : zs.getD (k * 6) 0 = a0) (e1 : zs.getD (k * 6 + 1) 0 = a1) (e2 : zs.getD (k * 6 + 2) 0 = a2) (e3 : zs.getD (k * 6 + 3) 0 = a3) (e4 : zs.getD (k * 6 + 4) 0 = a4) (e5 : zs.getD (k * 6 + 5) 0 = a5) :
    ((((((w.setCell ⟨g, k * 6, none⟩ (.int .i64 a0)).setCell ⟨g, k * 6 + 1, none⟩ (.int .i64 a1)).setCell ⟨g, k * 6 + 2, none⟩ (.int .i64 a2)).setCell ⟨g, k * 6 + 3, none⟩ (.int .i64 a3)).setCell ⟨g, k * 6 + 4, none⟩ (.int .i64 a4)).setCell ⟨g, k * 6 + 5, none⟩ (.int .i64 a5)).ownsRow base 56 6 (.slice (some ⟨g, 0, none⟩) n c) n (partVals zs (n * 6) ((k + 1) * 6)) := by
  subst e0 e1 e2 e3 e4 e5
  have h0 := (h.stored (k * 6) (.int .i64 (zs.getD (k * 6) 0))).1
  rw [partVals_set hl (by omega)] at h0
  have h1 := (h0.stored (k * 6 + 1) (.int .i64 (zs.getD (k * 6 + 1) 0))).1
  rw [partVals_set hl (by omega)] at h1
  have h2 := (h1.stored (k * 6 + 2) (.int .i64 (zs.getD (k * 6 + 2) 0))).1
  rw [partVals_set hl (by omega)] at h2
  have h3 := (h2.stored (k * 6 + 3) (.int .i64 (zs.getD (k * 6 + 3) 0))).1
  rw [partVals_set hl (by omega)] at h3
  have h4 := (h3.stored (k * 6 + 4) (.int .i64 (zs.getD (k * 6 + 4) 0))).1
  rw [partVals_set hl (by omega)] at h4
  have h5 := (h4.stored (k * 6 + 5) (.int .i64 (zs.getD (k * 6 + 5) 0))).1
  rw [partVals_set hl (by omega)] at h5
  rw [show (k + 1) * 6 = k * 6 + 5 + 1 by omega]
  exact h5
set_option maxRecDepth 100000 in
set_option maxHeartbeats 1000000 in
theorem toStmtS_own (A : Option Addr) (n c : Nat) (ss : List St) (w : World) (hr : Ints w A (flat ss)) (hl : ss.length = n) (hn : n ≤ 2000000) :
    Calls Try.prog 7 #[.slice A n c] w fun e w' => ∃ g, e = .returned (.slice (some ⟨g, 0, none⟩) n n) ∧ OwnS w.heap.size w' (.slice (some ⟨g, 0, none⟩) n n) n ss ∧ Below w.heap.size w w' := by
  have hfl : (flat ss).length = n * 6 := by rw [flat_length, hl]
  go_enter Try.func7, Try.ntmps7
  go_wp2_with (first | (refine make_fullS rfl _ _ rfl w.heap.size _ _ _ _ n rfl rfl rfl rfl (by omega) (by unfold maxLen; omega) (Nat.le_refl _) ?_))
  intro w1 hown1 hg1
  have hb1 : Below w.heap.size w w1 := (Below.refl _ _).grown hg1 (Nat.le_refl _) (fun k h => by cases h)
  have Hown1 := Lib.hid hown1
  clear hown1 hg1
  go_wp2_with fail
  go_loopw [4] (fun i wr => ∃ k : Nat, k ≤ n ∧ i = .int .i64 k ∧ wr.ownsRow w.heap.size 56 6 (.slice (some ⟨w.heap.size, 0, none⟩) n n) n (partVals (flat ss) (n * 6) (k * 6)) ∧ Below w.heap.size w wr) (fun i _ => n - (intOf i).toNat)
  case atStart => exact ⟨0, Nat.zero_le _, rfl, by rw [Nat.zero_mul, partVals_zero]; exact Hown1.out, hb1⟩
  case round =>
    obtain ⟨k, hk, rfl, hown, hb⟩ := hrel
    by_cases hlt : k < n
    · rcases hs : ss.getD k s0 with ⟨op, d, a, b, c0, m⟩
      obtain ⟨g, o, rfl, hbl, q0, q1, q2, q3, q4, q5⟩ := cell6 (hr.bound.below hb) (by omega) hs
      obtain ⟨e0, e1, e2, e3, e4, e5⟩ := flat_at ss k (by omega)
      rw [hs] at e0 e1 e2 e3 e4 e5
      have Hown := Lib.hid hown
      have Hst := fun (w2 : World) (h2 : w2.ownsRow w.heap.size 56 6 (.slice (some ⟨w.heap.size, 0, none⟩) n n) n (partVals (flat ss) (n * 6) (k * 6))) => six_row (k := k) h2 hfl hlt e0 e1 e2 e3 e4 e5
      have HSt := Lib.hid Hst
      have Hcell : ∀ w2 : World, w2.ownsRow w.heap.size 56 6 (.slice (some ⟨w.heap.size, 0, none⟩) n n) n (partVals (flat ss) (n * 6) (k * 6)) → ∀ i, i < n * 6 → ∃ u, w2.cell? ⟨w.heap.size, i, none⟩ = some u ∧ w2.frozen? ⟨w.heap.size, i, none⟩ = false :=
        fun w2 h2 i hi => ⟨_, (h2.cellAt i hi).trans (List.getElem?_eq_getElem (by rw [h2.1]; exact hi)), h2.frozenAt i⟩
      have HC := Lib.hid Hcell
      have hk0 : (0 : Int) ≤ k := by omega
      have hk1 : (k : Int) < n := by omega
      clear hown hr Hown1 Hst e0 e1 e2 e3 e4 e5 hs Hcell
      go_wp2_with fail
      refine (toStmt_any _ _ _ _ _ _ _).mono ?_
      rintro e w2 ⟨rfl, hb2⟩
      have hown2 := own_below Hown.out hb2
      have hb3 := hb.trans (hb2.mono hb.size)
      obtain ⟨u0, r0, f0⟩ := HC.out w2 hown2 (k * 6) (by omega)
      obtain ⟨u1, r1, f1⟩ := HC.out w2 hown2 (k * 6 + 1) (by omega)
      obtain ⟨u2, r2, f2⟩ := HC.out w2 hown2 (k * 6 + 2) (by omega)
      obtain ⟨u3, r3, f3⟩ := HC.out w2 hown2 (k * 6 + 3) (by omega)
      obtain ⟨u4, r4, f4⟩ := HC.out w2 hown2 (k * 6 + 4) (by omega)
      obtain ⟨u5, r5, f5⟩ := HC.out w2 hown2 (k * 6 + 5) (by omega)
      have Hst2 := Lib.hid (HSt.out w2 hown2)
      clear hown2 HC HSt Hown hb hb2
      go_wp2_with fail
      go_roundw
      case rel => exact ⟨k + 1, by omega, by go_num, Hst2.out, (((((hb3.setCell (Nat.le_refl _) _).setCell (Nat.le_refl _) _).setCell (Nat.le_refl _) _).setCell (Nat.le_refl _) _).setCell (Nat.le_refl _) _).setCell (Nat.le_refl _) _⟩
      case measure => simp [intOf]; omega
    · obtain rfl : k = n := by omega
      rw [partVals_all hfl] at hown
      go_wp2_with fail
      go_ret
      exact ⟨_, rfl, hown, hb⟩
/-- A list of statements of the call's own, its block between lo and hi. -/
structure OwnSt (lo hi : Nat) (w : World) (v : Value) (n : Nat) (ss : List St) : Prop where
  own : OwnS lo w v n ss
  top : ∀ k, v.ownBlock = some k → k < hi
theorem OwnSt.below {lo hi n : Nat} {w w1 : World} {v : Value} {ss : List St} (h : OwnSt lo hi w v n ss) (hb : Below w.heap.size w w1) : OwnSt lo hi w1 v n ss := ⟨own_below h.own hb, h.top⟩
theorem OwnSt.alloc {lo hi n : Nat} {w : World} {v : Value} {ss : List St} (h : OwnSt lo hi w v n ss) (o : Obj) : OwnSt lo hi (w.alloc o) v n ss := h.below (below_alloc w o)
theorem OwnSt.ints {lo hi n c : Nat} {w : World} {A : Option Addr} {ss : List St} (h : OwnSt lo hi w (.slice A n c) n ss) : Ints w A (flat ss) := (OwnS.ints h.own).1
theorem OwnSt.of_own {lo n : Nat} {w : World} {v : Value} {ss : List St} (h : OwnS lo w v n ss) : OwnSt lo w.heap.size w v n ss := ⟨h, fun k e => (World.ownsRow.lt h k e).2⟩
theorem toStmtS_new (A : Option Addr) (n c : Nat) (ss : List St) (w : World) (hr : Ints w A (flat ss)) (hl : ss.length = n) (hn : n ≤ 2000000) :
    Calls Try.prog 7 #[.slice A n c] w fun e w' => ∃ A' : Option Addr, e = .returned (.slice A' n n) ∧ OwnSt w.heap.size w'.heap.size w' (.slice A' n n) n ss ∧ Below w.heap.size w w' := by
  refine (toStmtS_own A n c ss w hr hl hn).mono ?_
  rintro e w' ⟨g, rfl, ho, hb⟩
  exact ⟨_, rfl, OwnSt.of_own ho, hb⟩
set_option maxRecDepth 100000 in
set_option maxHeartbeats 1000000 in
theorem eqStmtS_same (n m c1 c2 : Nat) (A B : Option Addr) (xs ys : List St) (w : World) (ha : Ints w A (flat xs)) (hb : Ints w B (flat ys)) (he : xs = ys) (hl : xs.length = n) (hm : ys.length = m) (hn : n ≤ 1000000000000) :
    Calls Try.prog 10 #[.slice A n c1, .slice B m c2] w fun e w' => e = .returned (.bool true) ∧ Below w.heap.size w w' := by
  subst he
  obtain rfl : n = m := hl.symm.trans hm
  clear hm
  go_enter Try.func10, Try.ntmps10
  go_wp2_with fail
  go_loopw [5] (fun i wr => ∃ k : Nat, k ≤ n ∧ i = .int .i64 k ∧ Below w.heap.size w wr) (fun i _ => n - (intOf i).toNat)
  case atStart => exact ⟨0, Nat.zero_le _, rfl, Below.refl _ _⟩
  case round =>
    obtain ⟨k, hk, rfl, hlow⟩ := hrel
    by_cases hlt : k < n
    · rcases hs : xs.getD k s0 with ⟨op, d, a, b, c, m⟩
      obtain ⟨g, o, rfl, -, q0, q1, q2, q3, q4, q5⟩ := cell6 (ha.bound.below hlow) (by omega) hs
      obtain ⟨g', o', rfl, -, r0, r1, r2, r3, r4, r5⟩ := cell6 (hb.bound.below hlow) (by omega) hs
      have k0 : (0 : Int) ≤ k := by omega
      have k1 : (k : Int) < n := by omega
      clear ha hb hs
      go_wp2_with fail
      go_region_with (first | (go_at_call 34; refine (eqStmt_any _ _ _ _ _ _ _).mono ?_; rintro e w2 ⟨rfl, hb2⟩))
      all_goals
        have hlow2 := hlow.drew.trans (hb2.mono hlow.size)
        clear hb2 hlow q0 q1 q2 q3 q4 q5 r0 r1 r2 r3 r4 r5
        go_wp2_with fail
        go_roundw
        case rel => exact ⟨k + 1, by omega, by go_num, hlow2⟩
        case measure => simp [intOf]; omega
    · obtain rfl : k = n := by omega
      clear ha hb
      go_wp2_with fail
      go_ret
      exact ⟨rfl, hlow⟩
end Go.Proofs.Ytbbdmgomcpmhpaa

namespace Go.Proofs.Ytbbdmgomcpmhpaa
open Go Go.RowKit
theorem get_set {ys : List Value} {p q : Nat} {v : Value} (h : p < ys.length) : (ys.set p v)[q]? = if q = p then some v else ys[q]? := by
  rw [List.getElem?_set]
  by_cases e : p = q
  · subst e; simp [h]
  · rw [if_neg e, if_neg (Ne.symm e)]
set_option maxRecDepth 100000 in
set_option maxHeartbeats 1000000 in
theorem markStmtS_own {te : TypeId} (lo n k : Nat) (v : Value) (zs : List Int) (w : World) (hown : w.ownsRow lo te 6 v n (intVals zs)) (hn : n * 6 + k ≤ 1000000000) :
    Calls Try.prog 11 #[v, .int .i64 (k : Int)] w fun e w' => e = .returned (.int .i64 ((k + n * 6 : Nat) : Int)) ∧ w'.ownsRow lo te 6 v n (intVals (markInts k (n * 6))) ∧ w.grownBy w' v.ownBlock := by
  obtain ⟨A, m, cp, rfl, rfl⟩ := ownsRow_slice hown
  go_enter Try.func11, Try.ntmps11
  go_wp2_with fail
  go_loopw [1, 5] (fun a i wr => ∃ (j K : Nat) (ys : List Value), j ≤ n ∧ a = .int .i64 (K : Int) ∧ i = .int .i64 j ∧ Hid (K = k + j * 6) ∧ wr.ownsRow lo te 6 (.slice A n cp) n ys ∧ Hid (∀ i, i < j * 6 → ys[i]? = some (.int .i64 ((k + i : Nat) : Int))) ∧ w.grownBy wr (Value.slice A n cp).ownBlock) (fun _ i _ => n - (intOf i).toNat)
  case atStart => exact ⟨0, k, intVals zs, Nat.zero_le _, rfl, rfl, (show k = k + 0 * 6 by omega), hown, (show ∀ i, i < 0 * 6 → _ from fun i hi => by omega), World.grownBy.refl w _⟩
  case round =>
    obtain ⟨j, K, ys, hj, rfl, rfl, hK, hown, hys, hgr⟩ := hrel
    have hyl : ys.length = n * 6 := hown.1
    by_cases hlt : j < n
    · obtain ⟨g, rfl, hg, hgl⟩ := own_addr hown (by omega)
      have hc : ∀ i, i < 6 → ∃ u, wr.cell? ⟨g, j * 6 + i, none⟩ = some u ∧ wr.frozen? ⟨g, j * 6 + i, none⟩ = false := fun i hi => ⟨_, (hown.cellAt (j * 6 + i) (by omega)).trans (List.getElem?_eq_getElem (by omega)), hown.frozenAt _⟩
      obtain ⟨u0, c0, f0⟩ := hc 0 (by omega)
      obtain ⟨u1, c1, f1⟩ := hc 1 (by omega)
      obtain ⟨u2, c2, f2⟩ := hc 2 (by omega)
      obtain ⟨u3, c3, f3⟩ := hc 3 (by omega)
      obtain ⟨u4, c4, f4⟩ := hc 4 (by omega)
      obtain ⟨u5, c5, f5⟩ := hc 5 (by omega)
      rw [Nat.add_zero] at c0 f0
      have s0 := hown.stored (j * 6) (.int .i64 ((K : Int)))
      have s1 := s0.1.stored (j * 6 + 1) (.int .i64 ((K : Int) + 1))
      have s2 := s1.1.stored (j * 6 + 2) (.int .i64 ((K : Int) + 1 + 1))
      have s3 := s2.1.stored (j * 6 + 3) (.int .i64 ((K : Int) + 1 + 1 + 1))
      have s4 := s3.1.stored (j * 6 + 4) (.int .i64 ((K : Int) + 1 + 1 + 1 + 1))
      have s5 := s4.1.stored (j * 6 + 5) (.int .i64 ((K : Int) + 1 + 1 + 1 + 1 + 1))
      have Hgr2 := Lib.hid ((((((hgr.trans s0.2).trans s1.2).trans s2.2).trans s3.2).trans s4.2).trans s5.2)
      have Hys := Lib.hid (show ∀ i, i < (j + 1) * 6 → ((((((ys.set (j * 6) (Value.int .i64 ((K : Int)))).set (j * 6 + 1) (Value.int .i64 ((K : Int) + 1))).set (j * 6 + 2) (Value.int .i64 ((K : Int) + 1 + 1))).set (j * 6 + 3) (Value.int .i64 ((K : Int) + 1 + 1 + 1))).set (j * 6 + 4) (Value.int .i64 ((K : Int) + 1 + 1 + 1 + 1))).set (j * 6 + 5) (Value.int .i64 ((K : Int) + 1 + 1 + 1 + 1 + 1)))[i]? = some (.int .i64 ((k + i : Nat) : Int)) from fun i hi => by
        have e0 := hK.out
        rw [get_set (by simp only [List.length_set]; omega), get_set (by simp only [List.length_set]; omega), get_set (by simp only [List.length_set]; omega), get_set (by simp only [List.length_set]; omega), get_set (by simp only [List.length_set]; omega), get_set (by omega)]
        split
        · subst_vars; congr 2
        · split
          · subst_vars; congr 2
          · split
            · subst_vars; congr 2
            · split
              · subst_vars; congr 2
              · split
                · subst_vars; congr 2
                · split
                  · subst_vars; congr 2
                  · exact hys.out i (by omega))
      have Hst := Lib.hid s5.1
      have hK2 : K ≤ 1000000000 := by have := hK.out; omega
      have hj0 : (0 : Int) ≤ j := by omega
      have hj1 : (j : Int) < n := by omega
      clear s0 s1 s2 s3 s4 s5 hown hyl hys hgr hc
      go_wp2_with fail
      go_roundw
      case rel => exact ⟨j + 1, K + 6, _, by omega, by go_num, by go_num, (show K + 6 = k + (j + 1) * 6 from by have := hK.out; omega), Hst.out, Hys.out, Hgr2.out⟩
      case measure => simp [intOf] <;> omega
    · obtain rfl : j = n := by omega
      have hm := markInts_of hyl hys.out
      have hfin := hK.out
      subst hm hfin
      have Hown := Lib.hid hown
      have Hgr := Lib.hid hgr
      clear hown hys hyl hgr
      go_wp2_with fail
      go_ret
      exact ⟨by first | rfl | simp, Hown.out, Hgr.out⟩
end Go.Proofs.Ytbbdmgomcpmhpaa

namespace Go.Proofs.Ytbbdmgomcpmhpaa
open Go Go.RowKit Go.ChangeShapes Go.WideShapes
section
variable {H : Type} {enc : TypeId × Value → H} {P : Program} {w : World} {base : Nat} {spare : Nat → Bool} {held : Bool}
/-- The cells of a struct whose fields are all ints. -/
theorem cells_ints {t ti : TypeId} {fs : Array Field} {fuel : Nat} {cs : List Value} {x : DataW H × List MemPlace} (hs : P.underlying t = some (.struct fs)) (ht : P.underlying ti = some (.int .i64)) (hone : Go.Deep.oneCellFields P fs = true)
    (hall : fs.all (fun f => f.type == ti) = true) (hC : P.cellsOf t = fs.size) (h : DataW.trod enc P w base spare held fuel t cs = some x) :
    ∃ zs : List Int, cs = intVals zs ∧ zs.length = fs.size ∧ ∀ z ∈ zs, (Lit.int .i64 z).wf = true := by
  obtain ⟨xs, m, _, _, hl, hlen, hg⟩ := DataW.trod_struct hs h
  rw [hC] at hl
  have key : ∀ i, i < fs.size → ∃ z, cs[i]? = some (.int .i64 z) ∧ (Lit.int .i64 z).wf = true := by
    intro i hi
    have hf : fs[i]? = some fs[i] := Array.getElem?_eq_getElem hi
    obtain ⟨ho, hk⟩ := Go.Deep.hone_of hone i fs[i] hf
    have htf : fs[i].type = ti := by
      have := Array.all_eq_true.1 hall i hi
      simpa using this
    have h1 := hg i fs[i] hf
    rw [ho, hk, htf, List.getElem?_eq_getElem (show i < xs.length by omega)] at h1
    obtain ⟨z, hz, _, hw⟩ := DataW.trod_int ht h1
    refine ⟨z, ?_, hw⟩
    have e : ((cs.drop i).take 1)[0]? = some (.int .i64 z) := by rw [hz]; rfl
    simpa [List.getElem?_take, List.getElem?_drop] using e
  refine ⟨cs.map fun v => match v with | .int _ z => z | _ => 0, ?_, by rw [List.length_map, hl], ?_⟩
  · apply List.ext_getElem?
    intro i
    by_cases hi : i < fs.size
    · obtain ⟨z, hz, _⟩ := key i hi
      simp [intVals, hz]
    · simp [intVals, List.getElem?_eq_none (show cs.length ≤ i by omega)]
  · intro z hz
    obtain ⟨v, hv, rfl⟩ := List.mem_map.1 hz
    obtain ⟨i, hi, rfl⟩ := List.mem_iff_getElem.1 hv
    obtain ⟨z, hz', hw⟩ := key i (by omega)
    rw [List.getElem?_eq_getElem hi] at hz'
    injection hz' with hz'
    rw [hz']
    exact hw
theorem len_six {zs : List Int} (h : zs.length = 6) : ∃ a b c d e f, zs = [a, b, c, d, e, f] := by
  match zs, h with
  | [a, b, c, d, e, f], _ => exact ⟨a, b, c, d, e, f, rfl⟩
/-- A struct of six ints, by value. -/
theorem agg_six {r : Reach} {b0 : Nat} {t ti : TypeId} {fs : Array Field} {v : Value} {d : DataW H} {p : List MemPlace} (hs : P.underlying t = some (.struct fs)) (ht : P.underlying ti = some (.int .i64)) (hone : Go.Deep.oneCellFields P fs = true)
    (hall : fs.all (fun f => f.type == ti) = true) (hC : P.cellsOf t = fs.size) (h6 : fs.size = 6) (hv : Value.okWide P w r b0 t v) (h : DataW.Trod enc P w base spare held t v d p) :
    ∃ a0 a1 a2 a3 a4 a5 : Int, v = .agg #[.int .i64 a0, .int .i64 a1, .int .i64 a2, .int .i64 a3, .int .i64 a4, .int .i64 a5] ∧ (Lit.int .i64 a0).wf = true ∧ (Lit.int .i64 a1).wf = true ∧ (Lit.int .i64 a2).wf = true ∧ (Lit.int .i64 a3).wf = true ∧ (Lit.int .i64 a4).wf = true ∧ (Lit.int .i64 a5).wf = true := by
  obtain ⟨cs, rfl, hsz⟩ := okWide_struct hs hv
  obtain ⟨fuel, hf⟩ := h
  obtain ⟨zs, hz, hl, hw⟩ := cells_ints hs ht hone hall hC hf
  obtain ⟨a0, a1, a2, a3, a4, a5, rfl⟩ := len_six (hl.trans h6)
  refine ⟨a0, a1, a2, a3, a4, a5, ?_, hw _ (by simp), hw _ (by simp), hw _ (by simp), hw _ (by simp), hw _ (by simp), hw _ (by simp)⟩
  have : cs.toList = intVals [a0, a1, a2, a3, a4, a5] := by simpa [Value.cells] using hz
  congr 1
  exact Array.ext' this
/-- A slice of structs of six ints. -/
theorem slice_six {t e ti : TypeId} {fs : Array Field} {A : Option Addr} {len cap : Nat} {d : DataW H} {p : List MemPlace} (hsl : P.underlying t = some (.slice e)) (hs : P.underlying e = some (.struct fs)) (ht : P.underlying ti = some (.int .i64)) (hone : Go.Deep.oneCellFields P fs = true)
    (hall : fs.all (fun f => f.type == ti) = true) (hC : P.cellsOf e = fs.size) (h6 : fs.size = 6) (h : DataW.Trod enc P w base spare held t (.slice A len cap) d p) :
    ∃ ss : List St, Ints w A (flat ss) ∧ ss.length = len ∧ len ≤ 9223372036854775807 := by
  obtain ⟨fuel, hf⟩ := h
  rcases Go.Deep.open_slice hsl hf with ⟨hcs, _⟩ | ⟨x, l, c, m, n, D, Pl, hcs, hb, hlc, hm, hmm, hx, hi⟩
  · simp [Value.cells] at hcs
    obtain ⟨rfl, rfl, rfl⟩ := hcs
    exact ⟨[], Ints.nil _ _, rfl, by omega⟩
  · simp [Value.cells] at hcs
    obtain ⟨rfl, rfl, rfl⟩ := hcs
    have hlm : len ≤ m := by rw [hmm]; split <;> omega
    have key : ∀ k, k ≤ len → ∃ ss : List St, ss.length = k ∧ ∀ j, j < k * 6 → w.cell? (x.add j) = some (.int .i64 ((flat ss).getD j 0)) := by
      intro k
      induction k with
      | zero => exact fun _ => ⟨[], rfl, fun j hj => by omega⟩
      | succ k ih =>
        intro hk
        obtain ⟨ss, hl, hc⟩ := ih (by omega)
        obtain ⟨cs', hcs', htr⟩ := hi k (by omega)
        obtain ⟨zs, hz, hl6, hw⟩ := cells_ints hs ht hone hall hC htr
        obtain ⟨a0, a1, a2, a3, a4, a5, rfl⟩ := len_six (hl6.trans h6)
        rw [hC, h6] at hcs'
        obtain ⟨_, _, hcell⟩ := World.cells?_some hcs'
        refine ⟨ss ++ [⟨a0, a1, a2, a3, a4, a5⟩], by simp [hl], fun j hj => ?_⟩
        have hfl : (flat ss).length = k * 6 := by rw [flat_length, hl]
        rw [flat_append]
        by_cases hjk : j < k * 6
        · rw [hc j hjk, List.getD_eq_getElem?_getD, List.getD_eq_getElem?_getD, List.getElem?_append_left (by omega)]
        · rw [List.getD_eq_getElem?_getD, List.getElem?_append_right (by omega), hfl, ← List.getD_eq_getElem?_getD]
          have h1 := hcell (j - k * 6) (by omega)
          rw [Go.Deep.add_add, show k * 6 + (j - k * 6) = j by omega, hz] at h1
          rw [h1]
          have h6 : j - k * 6 = 0 ∨ j - k * 6 = 1 ∨ j - k * 6 = 2 ∨ j - k * 6 = 3 ∨ j - k * 6 = 4 ∨ j - k * 6 = 5 := by omega
          rcases h6 with e | e | e | e | e | e <;> rw [e] <;> rfl
    obtain ⟨ss, hl, hc⟩ := key len (Nat.le_refl _)
    refine ⟨ss, ?_, hl, by unfold maxLen at hm; omega⟩
    have hfl : (flat ss).length = len * 6 := by rw [flat_length, hl]
    exact (Ints.of_row (w := w) (x := x) (len := len * 6) (cap := len * 6) (zs := flat ss) (Nat.le_refl _) hfl (fun i hi => hc i (by omega))).1 |> fun h => by rwa [List.take_of_length_le (by omega)] at h
end
end Go.Proofs.Ytbbdmgomcpmhpaa

namespace Go.Proofs.Ytbbdmgomcpmhpaa
open Go Go.RowKit
theorem toStmtS_ownA (A : Option Addr) (n c : Nat) (ss : List St) (w : World) (hr : Ints w A (flat ss)) (hl : ss.length = n) (hn : n ≤ 2000000) :
    Calls Try.prog 7 #[.slice A n c] w fun e w' => ∃ A' : Option Addr, e = .returned (.slice A' n n) ∧ OwnA 6 w.heap.size w'.heap.size w' (.slice A' n n) n (flat ss) ∧ Below w.heap.size w w' :=
  (toStmtS_new A n c ss w hr hl hn).mono fun _ _ ⟨_, he, ho, hb⟩ => ⟨_, he, ⟨⟨_, ho.own⟩, ho.top⟩, hb⟩
theorem markStmtS_ownA (lo hi n k : Nat) (v : Value) (zs : List Int) (w : World) (h : OwnA 6 lo hi w v n zs) (hn : n * 6 + k ≤ 1000000000) :
    Calls Try.prog 11 #[v, .int .i64 (k : Int)] w fun e w' => e = .returned (.int .i64 ((k + n * 6 : Nat) : Int)) ∧ OwnA 6 lo hi w' v n (markInts k (n * 6)) ∧ w.grownBy w' v.ownBlock := by
  obtain ⟨te, ho⟩ := h.own
  exact (markStmtS_own lo n k v zs w ho hn).mono fun _ _ ⟨he, h1, h2⟩ => ⟨he, ⟨⟨te, h1⟩, h.top⟩, h2⟩
end Go.Proofs.Ytbbdmgomcpmhpaa

namespace Go.Proofs.Ytbbdmgomcpmhpaa
open Go Go.RowKit
/-- What a statement adds to the depth. -/
def dl (op : Int) : Int := if op = 12 then 1 else if op = 13 then -1 else 0
/-- The depth behind a list that begins at depth D; none where a statement or a depth is not valid. -/
def runD (ss : List St) (D : Int) : Option Int := match ss with
  | [] => some D
  | s :: ss => if s.ok ∧ 0 ≤ D + dl s.op ∧ D + dl s.op ≤ 3 then runD ss (D + dl s.op) else none
def progI (ss : List St) : Prop := ss.length ≤ 40 ∧ runD ss 0 = some 0
instance (ss : List St) : Decidable (progI ss) := by unfold progI; infer_instance
theorem runD_step {ss : List St} {k : Nat} {D : Int} (hk : k < ss.length) {op d a b c n : Int} (e : ss.getD k s0 = ⟨op, d, a, b, c, n⟩) :
    runD (ss.drop k) D = if okI op d a b c n ∧ 0 ≤ D + dl op ∧ D + dl op ≤ 3 then runD (ss.drop (k + 1)) (D + dl op) else none := by
  rw [List.getD_eq_getElem?_getD, List.getElem?_eq_getElem hk, Option.getD_some] at e
  rw [List.drop_eq_getElem_cons hk, e]
  rfl
theorem runD_end (ss : List St) (D : Int) : runD (ss.drop ss.length) D = some D := by rw [List.drop_length]; rfl
theorem runD_append (ss ts : List St) (D : Int) : runD (ss ++ ts) D = (runD ss D).bind (runD ts) := by
  induction ss generalizing D with
  | nil => rfl
  | cons s ss ih =>
    simp only [List.cons_append, runD]
    split
    · exact ih _
    · rfl
/-- The parties that have an input among the statements, one more than the greatest. -/
def partN (ss : List St) (m : Int) : Int := match ss with
  | [] => m
  | s :: ss => partN ss (if s.op = 2 then max m (s.a + 1) else m)
def partsI (ss : List St) : Int := if progI ss then partN ss 0 else 0
theorem partN_step {ss : List St} {k : Nat} {m : Int} (hk : k < ss.length) {op d a b c n : Int} (e : ss.getD k s0 = ⟨op, d, a, b, c, n⟩) :
    partN (ss.drop k) m = partN (ss.drop (k + 1)) (if op = 2 then max m (a + 1) else m) := by
  rw [List.getD_eq_getElem?_getD, List.getElem?_eq_getElem hk, Option.getD_some] at e
  rw [List.drop_eq_getElem_cons hk, e]
  rfl
theorem partN_end (ss : List St) (m : Int) : partN (ss.drop ss.length) m = m := by rw [List.drop_length]; rfl
/-- Each statement of a valid program is valid. -/
theorem runD_ok {ss : List St} {D E : Int} (h : runD ss D = some E) : ∀ k, k < ss.length → (ss.getD k s0).ok := by
  induction ss generalizing D with
  | nil => intro k hk; simp at hk
  | cons s ss ih =>
    intro k hk
    simp only [runD] at h
    split at h
    · rename_i hs
      cases k with
      | zero => exact hs.1
      | succ k => simpa using ih h k (by simpa using hk)
    · cases h
theorem partN_range {ss : List St} (h : ∀ k, k < ss.length → (ss.getD k s0).ok) {m : Int} (hm : 0 ≤ m ∧ m ≤ 5) : 0 ≤ partN ss m ∧ partN ss m ≤ 5 := by
  induction ss generalizing m with
  | nil => exact hm
  | cons s ss ih =>
    have h0 : s.ok := by simpa using h 0 (by simp)
    refine ih (fun k hk => by simpa using h (k + 1) (by simpa using hk)) ?_
    unfold St.ok okI isReg at h0
    split <;> omega
theorem ok_op {op d a b c n : Int} (h : okI op d a b c n) : 1 ≤ op ∧ op ≤ 13 ∧ (op = 2 → 0 ≤ a ∧ a ≤ 4) := by unfold okI at h; omega
end Go.Proofs.Ytbbdmgomcpmhpaa

namespace Go.Proofs.Ytbbdmgomcpmhpaa
open Go Go.RowKit
/-- A list of statements that ends at the depth at which it began, and never goes more than h deeper. -/
def Bal (h : Nat) (ss : List St) : Prop := ∀ D : Int, 0 ≤ D → D + h ≤ 3 → runD ss D = some D
theorem Bal.nil (h : Nat) : Bal h [] := fun _ _ _ => rfl
theorem Bal.app {h : Nat} {a b : List St} (ha : Bal h a) (hb : Bal h b) : Bal h (a ++ b) := fun D h0 h1 => by
  rw [runD_append, ha D h0 h1]
  exact hb D h0 h1
theorem Bal.mono {h k : Nat} {a : List St} (ha : Bal h a) (hk : h ≤ k) : Bal k a := fun D h0 h1 => ha D h0 (by omega)
theorem Bal.one {h : Nat} {s : St} (hs : s.ok) (ho : s.op ≤ 11) : Bal h [s] := fun D h0 h1 => by
  have e : dl s.op = 0 := by unfold dl; rw [if_neg (by omega), if_neg (by omega)]
  simp only [runD, e, Int.add_zero]
  rw [if_pos ⟨hs, by omega, by omega⟩]
def loopSt (n : Int) : St := ⟨12, 0, 0, 0, 0, n⟩
def endSt : St := ⟨13, 0, 0, 0, 0, 0⟩
theorem Bal.loop {h : Nat} {ss : List St} {n : Int} (hs : Bal h ss) (hn : 1 ≤ n ∧ n ≤ 8) : Bal (h + 1) (([loopSt n] ++ ss) ++ [endSt]) := fun D h0 h1 => by
  have ok1 : (loopSt n).ok := by simp [loopSt, St.ok, okI]; omega
  have ok2 : endSt.ok := by simp [endSt, St.ok, okI]
  have e1 : dl (loopSt n).op = 1 := rfl
  have e2 : dl endSt.op = -1 := rfl
  have h1' : D + (h : Int) + 1 ≤ 3 := by have : ((h + 1 : Nat) : Int) = (h : Int) + 1 := by omega
                                         omega
  rw [runD_append, runD_append]
  simp only [runD, e1, e2]
  rw [if_pos ⟨ok1, by omega, by omega⟩, Option.bind_some, hs (D + 1) (by omega) (by omega), Option.bind_some, if_pos ⟨ok2, by omega, by omega⟩, show D + 1 + -1 = D by omega]
/-- A drawn statement: its registers are below 4, its number of times below 4. -/
def smallSt (s : St) : Prop := s.ok ∧ (0 ≤ s.d ∧ s.d ≤ 3) ∧ (0 ≤ s.a ∧ s.a ≤ 3) ∧ (0 ≤ s.b ∧ s.b ≤ 3) ∧ (0 ≤ s.c ∧ s.c ≤ 3) ∧ (s.op = 12 → s.n ≤ 3)
def smallAll (ss : List St) : Prop := ∀ s ∈ ss, smallSt s
theorem smallAll.nil : smallAll [] := fun s h => by simp at h
theorem smallAll.app {a b : List St} (ha : smallAll a) (hb : smallAll b) : smallAll (a ++ b) := fun s h => (List.mem_append.1 h).elim (ha s) (hb s)
theorem smallAll.one {s : St} (h : smallSt s) : smallAll [s] := fun t ht => by simp at ht; subst ht; exact h
theorem small_loop {n : Int} (hn : 1 ≤ n ∧ n ≤ 3) : smallSt (loopSt n) := ⟨by simp [loopSt, St.ok, okI]; omega, by simp [loopSt], by simp [loopSt], by simp [loopSt], by simp [loopSt], fun _ => hn.2⟩
theorem small_end : smallSt endSt := ⟨by simp [endSt, St.ok, okI], by simp [endSt], by simp [endSt], by simp [endSt], by simp [endSt], fun h => by simp [endSt] at h⟩
/-- What a drawn block is. -/
structure Blk8 (h : Nat) (ss : List St) : Prop where
  bal : Bal h ss
  small : smallAll ss
theorem Blk8.nil (h : Nat) : Blk8 h [] := ⟨Bal.nil h, smallAll.nil⟩
theorem Blk8.app {h : Nat} {a b : List St} (ha : Blk8 h a) (hb : Blk8 h b) : Blk8 h (a ++ b) := ⟨ha.bal.app hb.bal, ha.small.app hb.small⟩
theorem Blk8.loop {h : Nat} {a ss : List St} {n : Int} (ha : Blk8 (h + 1) a) (hs : Blk8 h ss) (hn : 0 ≤ n ∧ n < 3) : Blk8 (h + 1) (((a ++ [loopSt (1 + n)]) ++ ss) ++ [endSt]) := by
  rw [List.append_assoc, List.append_assoc, ← List.append_assoc [loopSt (1 + n)]]
  exact ha.app ⟨hs.bal.loop (by omega), ((smallAll.one (small_loop (by omega))).app hs.small).app (smallAll.one small_end)⟩
/-- A drawn program. -/
structure DrawnP (ss : List St) : Prop where
  bal : Bal 2 ss
  small : smallAll ss
  lo : 3 ≤ ss.length
  len : ss.length ≤ 30
  two : ∃ ts, ss = ⟨2, 0, 0, 0, 0, 0⟩ :: ⟨2, 1, 1, 0, 0, 0⟩ :: ts
  last : ∃ us x, ss = us ++ [⟨11, 0, x, 0, 0, 0⟩]
theorem DrawnP.prog {ss : List St} (h : DrawnP ss) : progI ss := ⟨by have := h.len; omega, h.bal 0 (by omega) (by omega)⟩
theorem partN_le (ss : List St) (m : Int) : m ≤ partN ss m := by
  induction ss generalizing m with
  | nil => exact Int.le_refl _
  | cons s ss ih =>
    refine Int.le_trans ?_ (ih _)
    split <;> omega
theorem DrawnP.parts {ss : List St} (h : DrawnP ss) : 2 ≤ partsI ss := by
  unfold partsI
  rw [if_pos h.prog]
  obtain ⟨ts, rfl⟩ := h.two
  exact partN_le ts 2
theorem DrawnP.at_ {ss : List St} (h : DrawnP ss) {k : Nat} (hk : k < ss.length) : smallSt (ss.getD k s0) := by
  rw [List.getD_eq_getElem?_getD, List.getElem?_eq_getElem hk, Option.getD_some]
  exact h.small _ (List.getElem_mem _)
/-- What is asked of a valid statement's registers. -/
theorem reads_range {op d a b c n : Int} (h : okI op d a b c n) : ∀ x ∈ readsI op a b c, 0 ≤ x ∧ x ≤ 7 := by
  unfold okI isReg at h
  unfold readsI
  intro x hx
  split at hx
  · simp at hx; omega
  · split at hx
    · simp at hx; omega
    · split at hx
      · simp at hx; omega
      · simp at hx
theorem writes_range {op d a b c n : Int} (h : okI op d a b c n) : -1 ≤ writesOf op d a b c n ∧ writesOf op d a b c n ≤ 7 := by
  unfold writesOf
  unfold okI isReg at h
  split <;> omega
theorem out_only {op d a b c n : Int} (h : okI op d a b c n) : (op = 11) ↔ (writesOf op d a b c n = -1 ∧ (readsI op a b c).length = 1) := by
  unfold writesOf readsI
  by_cases hp : op ≤ 10
  · rw [if_pos ⟨h, hp⟩]
    unfold okI isReg at h
    refine ⟨fun e => by omega, fun e => ?_⟩
    exfalso
    have := e.1
    omega
  · rw [if_neg (fun x => hp x.2), if_neg (by omega)]
    unfold okI isReg at h
    by_cases h11 : op = 11
    · rw [if_pos h11]; simp [h11]
    · rw [if_neg h11, if_neg (by omega)]; simp [h11]
end Go.Proofs.Ytbbdmgomcpmhpaa
