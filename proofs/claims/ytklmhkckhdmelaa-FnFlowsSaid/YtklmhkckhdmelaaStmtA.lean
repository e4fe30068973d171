/- Lists of statements: how they lie in memory, the laws' copying and comparing of them. No condition. -/
import Derived.Test.YtklmhkckhdmelaaProg
import Derived.Test.YtklmhkckhdmelaaStM
import Derived.Test.YtklmhkckhdmelaaIntsX
import Derived.Test.YtklmhkckhdmelaaSeg
import Derived.Test.YtklmhkckhdmelaaBlk
import Derived.Test.YtklmhkckhdmelaaPost
import Derived.Handy
namespace Go.Proofs.Ytklmhkckhdmelaa
open Go Go.RowKit
def s0 : St := ⟨0, 0, 0, 0, 0, 0⟩
/-- The numbers of a list of statements, one behind the other. -/
def flat (ss : List St) : List Int := match ss with
  | [] => []
  | s :: ss => s.op :: s.d :: s.a :: s.b :: s.c :: s.n :: flat ss
theorem flat_length (ss : List St) : (flat ss).length = ss.length * 6 := by
  induction ss with
  | nil => rfl
  | cons s ss ih => simp only [flat, List.length_cons, ih]; omega
theorem flat_append (ss ts : List St) : flat (ss ++ ts) = flat ss ++ flat ts := by
  induction ss with
  | nil => rfl
  | cons s ss ih => simp only [List.cons_append, flat, ih]
theorem flat_at (ss : List St) (j : Nat) (h : j < ss.length) : (flat ss).getD (j * 6) 0 = (ss.getD j s0).op ∧ (flat ss).getD (j * 6 + 1) 0 = (ss.getD j s0).d ∧ (flat ss).getD (j * 6 + 2) 0 = (ss.getD j s0).a ∧
    (flat ss).getD (j * 6 + 3) 0 = (ss.getD j s0).b ∧ (flat ss).getD (j * 6 + 4) 0 = (ss.getD j s0).c ∧ (flat ss).getD (j * 6 + 5) 0 = (ss.getD j s0).n := by
  induction ss generalizing j with
  | nil => simp at h
  | cons s ss ih =>
    cases j with
    | zero => exact ⟨rfl, rfl, rfl, rfl, rfl, rfl⟩
    | succ j =>
      have := ih j (by simpa using h)
      rw [show (j + 1) * 6 = j * 6 + 1 + 1 + 1 + 1 + 1 + 1 by omega]
      simpa [flat] using this
theorem cell6 {B : Nat} {w : World} {A : Option Addr} {ss : List St} {j : Nat} (h : IntsB B w A (flat ss)) (hj : j < ss.length) {op d a b c n : Int} (e : ss.getD j s0 = ⟨op, d, a, b, c, n⟩) :
    ∃ g o, A = some ⟨g, o, none⟩ ∧ g < B ∧ w.cell? ⟨g, o + j * 6, none⟩ = some (.int .i64 op) ∧ w.cell? ⟨g, o + j * 6 + 1, none⟩ = some (.int .i64 d) ∧ w.cell? ⟨g, o + j * 6 + 2, none⟩ = some (.int .i64 a) ∧
      w.cell? ⟨g, o + j * 6 + 3, none⟩ = some (.int .i64 b) ∧ w.cell? ⟨g, o + j * 6 + 4, none⟩ = some (.int .i64 c) ∧ w.cell? ⟨g, o + j * 6 + 5, none⟩ = some (.int .i64 n) := by
  have hl := flat_length ss
  obtain ⟨e0, e1, e2, e3, e4, e5⟩ := flat_at ss j hj
  rw [e] at e0 e1 e2 e3 e4 e5
  obtain ⟨g, o, hA, hb, hc⟩ := h (by omega)
  exact ⟨g, o, hA, hb, (hc (j * 6) (by omega)).trans (by rw [e0]), (hc (j * 6 + 1) (by omega)).trans (by rw [e1]), (hc (j * 6 + 2) (by omega)).trans (by rw [e2]), (hc (j * 6 + 3) (by omega)).trans (by rw [e3]), (hc (j * 6 + 4) (by omega)).trans (by rw [e4]), (hc (j * 6 + 5) (by omega)).trans (by rw [e5])⟩
set_option maxRecDepth 100000 in
theorem toStmt_any (op d a b c n : Int) (w : World) :
    Calls Try.prog 22 #[.agg #[.int .i64 op, .int .i64 d, .int .i64 a, .int .i64 b, .int .i64 c, .int .i64 n]] w fun e w' => e = .returned (.agg #[.int .i64 op, .int .i64 d, .int .i64 a, .int .i64 b, .int .i64 c, .int .i64 n]) ∧ Below w.heap.size w w' := by
  go_enter Try.func22, Try.ntmps22
  go_wp2_with fail
  go_returns
  exact ⟨rfl, low_alloc (low_alloc (below_alloc _ _) _) _⟩
set_option maxRecDepth 100000 in
theorem eqStmt_any (op d a b c n : Int) (w : World) :
    Calls Try.prog 49 #[.agg #[.int .i64 op, .int .i64 d, .int .i64 a, .int .i64 b, .int .i64 c, .int .i64 n], .agg #[.int .i64 op, .int .i64 d, .int .i64 a, .int .i64 b, .int .i64 c, .int .i64 n]] w fun e w' => e = .returned (.bool true) ∧ Below w.heap.size w w' := by
  go_enter Try.func49, Try.ntmps49
  go_wp2_with fail
  go_ret
  exact ⟨rfl, low_alloc (below_alloc _ _) _⟩
theorem szStmtS_any (left : Nat) (A : Option Addr) (n c : Nat) (w : World) (hl : left ≤ 1048576) (hn : n ≤ 9223372036854775807) :
    Calls Try.prog 24 #[.slice A n c, .int .i64 (left : Int)] w fun e w' => e = .returned (.int .i64 (szRes left n)) ∧ w = w' := by
  by_cases h : n ≤ left
  · have e : szRes left n = (left : Int) - (n : Int) := by rw [szRes, if_pos h]; omega
    rw [e]
    clear e
    go_enter Try.func24, Try.ntmps24
    go_wp2_with fail
    go_ret
    exact ⟨rfl, rfl⟩
  · have e : szRes left n = -1 := by rw [szRes, if_neg h]
    rw [e]
    clear e
    go_enter Try.func24, Try.ntmps24
    go_wp2_with fail
    go_ret
    exact ⟨rfl, rfl⟩
theorem toList_six (z : Value) (n : Nat) : (madeCells #[z, z, z, z, z, z] n).toList = List.replicate n z := by
  apply List.ext_getElem?
  intro j
  by_cases hj : j < n
  · have h6 : j % 6 = 0 ∨ j % 6 = 1 ∨ j % 6 = 2 ∨ j % 6 = 3 ∨ j % 6 = 4 ∨ j % 6 = 5 := by omega
    simp [madeCells, hj]
    rcases h6 with h | h | h | h | h | h <;> rw [h] <;> rfl
  · simp [madeCells, hj]
theorem elemStmt : Elem Try.prog 24 43 6 48 := ⟨Try.underlying24, by
  obtain ⟨i, hi, hz, h1, h2⟩ := info_parts (show (Try.prog.info? 43).map (fun i => (i.zero, i.size, i.bytes)) = some (some (.agg #[.int .i64 0, .int .i64 0, .int .i64 0, .int .i64 0, .int .i64 0, .int .i64 0]), 6, 48) by kernel_rfl)
  exact ⟨i, _, hi, hz, h1, h2, rfl⟩, by omega⟩
theorem make_fullS {w : World} {ops : Array Oper} {rest : List Oper} {o : Oper} {a : Act} {Q : Exit → Act → World → Prop} (hgd : o.guard = none) (l c : Operand)
    (ho : o.op = Op.makeSlice 24 l c) (base : Nat) (kl kc : IntKind) (L C : Int) (n : Nat) (hl : a.eval l = .int kl L) (hc : a.eval c = .int kc C) (hL : L = (n : Int)) (hC : C = (n : Int)) (b2 : 48 * n ≤ 281474976710656) (b3 : n ≤ maxLen) (b4 : base ≤ w.heap.size)
    (h : ∀ w', w'.ownsRow base 43 6 (.slice (some ⟨w.heap.size, 0, none⟩) n n) n (List.replicate (n * 6) (.int .i64 0)) → w.grownBy w' none → wpList Try.prog ops Q rest (a.put o.dst (.slice (some ⟨w.heap.size, 0, none⟩) n n)) w') :
    wpList Try.prog ops Q (o :: rest) a w := by
  obtain ⟨i, hi, hz, h1, h2⟩ := info_parts (show (Try.prog.info? 43).map (fun i => (i.zero, i.size, i.bytes)) = some (some (.agg #[.int .i64 0, .int .i64 0, .int .i64 0, .int .i64 0, .int .i64 0, .int .i64 0]), 6, 48) by kernel_rfl)
  refine wpList_make_full w hgd l c _ ho base 43 i _ 6 Try.underlying24 hi hz h1 kl kc L C n hl hc hL hC (by rw [h2]; exact b2) b3 b4 fun w' r1 r2 => h w' ?_ r2
  rw [show (Value.agg #[.int .i64 0, .int .i64 0, .int .i64 0, .int .i64 0, .int .i64 0, .int .i64 0]).cells = #[.int .i64 0, .int .i64 0, .int .i64 0, .int .i64 0, .int .i64 0, .int .i64 0] from rfl, toList_six] at r1
  exact r1
/-- A list of statements of the call's own. -/
def OwnS (lo : Nat) (w : World) (v : Value) (n : Nat) (ss : List St) : Prop := w.ownsRow lo 43 6 v n (intVals (flat ss))
theorem OwnS.ints {w : World} {base n c : Nat} {A : Option Addr} {ss : List St} (h : OwnS base w (.slice A n c) n ss) : Ints w A (flat ss) ∧ ss.length = n := by
  have hl : ss.length = n := by have := h.1; rw [intVals_length, flat_length] at this; omega
  refine ⟨fun h0 => ?_, hl⟩
  rcases h.2 with ⟨he, h1⟩ | ⟨g, cap, cur, he, hg, hh, _⟩
  · simp [flat_length] at h0; omega
  · injection he with he1 he2 he3
    subst he1 he3
    refine ⟨g, 0, rfl, (Array.getElem?_eq_some_iff.1 hh).1, fun j hj => ?_⟩
    have hj' : j < n * 6 := by rw [flat_length] at hj; omega
    have := h.cellAt j hj'
    rw [Nat.zero_add, this]
    simp [intVals, List.getElem?_map, List.getD_eq_getElem?_getD, List.getElem?_eq_getElem hj]
theorem six_row {w : World} {base g n c : Nat} {zs : List Int} {k : Nat} {a0 a1 a2 a3 a4 a5 : Int} (h : w.ownsRow base 43 6 (.slice (some ⟨g, 0, none⟩) n c) n (partVals zs (n * 6) (k * 6))) (hl : zs.length = n * 6) (hk : k < n)
    (e0 : zs.getD (k * 6) 0 = a0) (e1 : zs.getD (k * 6 + 1) 0 = a1) (e2 : zs.getD (k * 6 + 2) 0 = a2) (e3 : zs.getD (k * 6 + 3) 0 = a3) (e4 : zs.getD (k * 6 + 4) 0 = a4) (e5 : zs.getD (k * 6 + 5) 0 = a5) :
    ((((((w.setCell ⟨g, k * 6, none⟩ (.int .i64 a0)).setCell ⟨g, k * 6 + 1, none⟩ (.int .i64 a1)).setCell ⟨g, k * 6 + 2, none⟩ (.int .i64 a2)).setCell ⟨g, k * 6 + 3, none⟩ (.int .i64 a3)).setCell ⟨g, k * 6 + 4, none⟩ (.int .i64 a4)).setCell ⟨g, k * 6 + 5, none⟩ (.int .i64 a5)).ownsRow base 43 6 (.slice (some ⟨g, 0, none⟩) n c) n (partVals zs (n * 6) ((k + 1) * 6)) := by
  subst e0 e1 e2 e3 e4 e5
  have h0 := (h.stored (k * 6) (.int .i64 (zs.getD (k * 6) 0))).1
  rw [partVals_set hl (by omega)] at h0
  have h1 := (h0.stored (k * 6 + 1) (.int .i64 (zs.getD (k * 6 + 1) 0))).1
  rw [partVals_set hl (by omega)] at h1
  have h2 := (h1.stored (k * 6 + 2) (.int .i64 (zs.getD (k * 6 + 2) 0))).1
  rw [partVals_set hl (by omega)] at h2
  have h3 := (h2.stored (k * 6 + 3) (.int .i64 (zs.getD (k * 6 + 3) 0))).1
  rw [partVals_set hl (by omega)] at h3
  have h4 := (h3.stored (k * 6 + 4) (.int .i64 (zs.getD (k * 6 + 4) 0))).1
  rw [partVals_set hl (by omega)] at h4
  have h5 := (h4.stored (k * 6 + 5) (.int .i64 (zs.getD (k * 6 + 5) 0))).1
  rw [partVals_set hl (by omega)] at h5
  rw [show (k + 1) * 6 = k * 6 + 5 + 1 by omega]
  exact h5
set_option maxRecDepth 100000 in
set_option maxHeartbeats 1000000 in
theorem toStmtS_own (A : Option Addr) (n c : Nat) (ss : List St) (w : World) (hr : Ints w A (flat ss)) (hl : ss.length = n) (hn : n ≤ 2000000) :
    Calls Try.prog 26 #[.slice A n c] w fun e w' => ∃ g, e = .returned (.slice (some ⟨g, 0, none⟩) n n) ∧ OwnS w.heap.size w' (.slice (some ⟨g, 0, none⟩) n n) n ss ∧ Below w.heap.size w w' := by
  have hfl : (flat ss).length = n * 6 := by rw [flat_length, hl]
  go_enter Try.func26, Try.ntmps26
  go_wp2_with (first | (refine make_fullS rfl _ _ rfl w.heap.size _ _ _ _ n rfl rfl rfl rfl (by omega) (by unfold maxLen; omega) (Nat.le_refl _) ?_))
  intro w1 hown1 hg1
  have hb1 : Below w.heap.size w w1 := (Below.refl _ _).grown hg1 (Nat.le_refl _) (fun k h => by cases h)
  have Hown1 := Lib.hid hown1
  clear hown1 hg1
  go_wp2_with fail
  go_loopw [4] (fun i wr => ∃ k : Nat, k ≤ n ∧ i = .int .i64 k ∧ wr.ownsRow w.heap.size 43 6 (.slice (some ⟨w.heap.size, 0, none⟩) n n) n (partVals (flat ss) (n * 6) (k * 6)) ∧ Below w.heap.size w wr) (fun i _ => n - (intOf i).toNat)
  case atStart => exact ⟨0, Nat.zero_le _, rfl, by rw [Nat.zero_mul, partVals_zero]; exact Hown1.out, hb1⟩
  case round =>
    obtain ⟨k, hk, rfl, hown, hb⟩ := hrel
    by_cases hlt : k < n
    · rcases hs : ss.getD k s0 with ⟨op, d, a, b, c0, m⟩
      obtain ⟨g, o, rfl, hbl, q0, q1, q2, q3, q4, q5⟩ := cell6 (hr.bound.below hb) (by omega) hs
      obtain ⟨e0, e1, e2, e3, e4, e5⟩ := flat_at ss k (by omega)
      rw [hs] at e0 e1 e2 e3 e4 e5
      have Hown := Lib.hid hown
      have Hst := fun (w2 : World) (h2 : w2.ownsRow w.heap.size 43 6 (.slice (some ⟨w.heap.size, 0, none⟩) n n) n (partVals (flat ss) (n * 6) (k * 6))) => six_row (k := k) h2 hfl hlt e0 e1 e2 e3 e4 e5
      have HSt := Lib.hid Hst
      have Hcell : ∀ w2 : World, w2.ownsRow w.heap.size 43 6 (.slice (some ⟨w.heap.size, 0, none⟩) n n) n (partVals (flat ss) (n * 6) (k * 6)) → ∀ i, i < n * 6 → ∃ u, w2.cell? ⟨w.heap.size, i, none⟩ = some u ∧ w2.frozen? ⟨w.heap.size, i, none⟩ = false :=
        fun w2 h2 i hi => ⟨_, (h2.cellAt i hi).trans (List.getElem?_eq_getElem (by rw [h2.1]; exact hi)), h2.frozenAt i⟩
      have HC := Lib.hid Hcell
      have hk0 : (0 : Int) ≤ k := by omega
      have hk1 : (k : Int) < n := by omega
      clear hown hr Hown1 Hst e0 e1 e2 e3 e4 e5 hs Hcell
      go_wp2_with fail
      refine (toStmt_any _ _ _ _ _ _ _).mono ?_
      rintro e w2 ⟨rfl, hb2⟩
      have hown2 := own_below Hown.out hb2
      have hb3 := hb.trans (hb2.mono hb.size)
      obtain ⟨u0, r0, f0⟩ := HC.out w2 hown2 (k * 6) (by omega)
      obtain ⟨u1, r1, f1⟩ := HC.out w2 hown2 (k * 6 + 1) (by omega)
      obtain ⟨u2, r2, f2⟩ := HC.out w2 hown2 (k * 6 + 2) (by omega)
      obtain ⟨u3, r3, f3⟩ := HC.out w2 hown2 (k * 6 + 3) (by omega)
      obtain ⟨u4, r4, f4⟩ := HC.out w2 hown2 (k * 6 + 4) (by omega)
      obtain ⟨u5, r5, f5⟩ := HC.out w2 hown2 (k * 6 + 5) (by omega)
      have Hst2 := Lib.hid (HSt.out w2 hown2)
      clear hown2 HC HSt Hown hb hb2
      go_wp2_with fail
      go_roundw
      case rel => exact ⟨k + 1, by omega, by go_num, Hst2.out, (((((hb3.setCell (Nat.le_refl _) _).setCell (Nat.le_refl _) _).setCell (Nat.le_refl _) _).setCell (Nat.le_refl _) _).setCell (Nat.le_refl _) _).setCell (Nat.le_refl _) _⟩
      case measure => simp [intOf]; omega
    · obtain rfl : k = n := by omega
      rw [partVals_all hfl] at hown
      go_wp2_with fail
      go_ret
      exact ⟨_, rfl, hown, hb⟩
/-- A list of statements of the call's own, its block between lo and hi. -/
structure OwnSt (lo hi : Nat) (w : World) (v : Value) (n : Nat) (ss : List St) : Prop where
  own : OwnS lo w v n ss
  top : ∀ k, v.ownBlock = some k → k < hi
theorem OwnSt.below {lo hi n : Nat} {w w1 : World} {v : Value} {ss : List St} (h : OwnSt lo hi w v n ss) (hb : Below w.heap.size w w1) : OwnSt lo hi w1 v n ss := ⟨own_below h.own hb, h.top⟩
theorem OwnSt.alloc {lo hi n : Nat} {w : World} {v : Value} {ss : List St} (h : OwnSt lo hi w v n ss) (o : Obj) : OwnSt lo hi (w.alloc o) v n ss := h.below (below_alloc w o)
theorem OwnSt.ints {lo hi n c : Nat} {w : World} {A : Option Addr} {ss : List St} (h : OwnSt lo hi w (.slice A n c) n ss) : Ints w A (flat ss) := (OwnS.ints h.own).1
theorem OwnSt.of_own {lo n : Nat} {w : World} {v : Value} {ss : List St} (h : OwnS lo w v n ss) : OwnSt lo w.heap.size w v n ss := ⟨h, fun k e => (World.ownsRow.lt h k e).2⟩
theorem toStmtS_new (A : Option Addr) (n c : Nat) (ss : List St) (w : World) (hr : Ints w A (flat ss)) (hl : ss.length = n) (hn : n ≤ 2000000) :
    Calls Try.prog 26 #[.slice A n c] w fun e w' => ∃ A' : Option Addr, e = .returned (.slice A' n n) ∧ OwnSt w.heap.size w'.heap.size w' (.slice A' n n) n ss ∧ Below w.heap.size w w' := by
  refine (toStmtS_own A n c ss w hr hl hn).mono ?_
  rintro e w' ⟨g, rfl, ho, hb⟩
  exact ⟨_, rfl, OwnSt.of_own ho, hb⟩
set_option maxRecDepth 100000 in
set_option maxHeartbeats 1000000 in
theorem eqStmtS_same (n m c1 c2 : Nat) (A B : Option Addr) (xs ys : List St) (w : World) (ha : Ints w A (flat xs)) (hb : Ints w B (flat ys)) (he : xs = ys) (hl : xs.length = n) (hm : ys.length = m) (hn : n ≤ 1000000000000) :
    Calls Try.prog 28 #[.slice A n c1, .slice B m c2] w fun e w' => e = .returned (.bool true) ∧ Below w.heap.size w w' := by
  subst he
  obtain rfl : n = m := hl.symm.trans hm
  clear hm
  go_enter Try.func28, Try.ntmps28
  go_wp2_with fail
  go_loopw [5] (fun i wr => ∃ k : Nat, k ≤ n ∧ i = .int .i64 k ∧ Below w.heap.size w wr) (fun i _ => n - (intOf i).toNat)
  case atStart => exact ⟨0, Nat.zero_le _, rfl, Below.refl _ _⟩
  case round =>
    obtain ⟨k, hk, rfl, hlow⟩ := hrel
    by_cases hlt : k < n
    · rcases hs : xs.getD k s0 with ⟨op, d, a, b, c, m⟩
      obtain ⟨g, o, rfl, -, q0, q1, q2, q3, q4, q5⟩ := cell6 (ha.bound.below hlow) (by omega) hs
      obtain ⟨g', o', rfl, -, r0, r1, r2, r3, r4, r5⟩ := cell6 (hb.bound.below hlow) (by omega) hs
      have k0 : (0 : Int) ≤ k := by omega
      have k1 : (k : Int) < n := by omega
      clear ha hb hs
      go_wp2_with fail
      go_region_with (first | (go_at_call 49; refine (eqStmt_any _ _ _ _ _ _ _).mono ?_; rintro e w2 ⟨rfl, hb2⟩))
      all_goals
        have hlow2 := hlow.drew.trans (hb2.mono hlow.size)
        clear hb2 hlow q0 q1 q2 q3 q4 q5 r0 r1 r2 r3 r4 r5
        go_wp2_with fail
        go_roundw
        case rel => exact ⟨k + 1, by omega, by go_num, hlow2⟩
        case measure => simp [intOf]; omega
    · obtain rfl : k = n := by omega
      clear ha hb
      go_wp2_with fail
      go_ret
      exact ⟨rfl, hlow⟩
end Go.Proofs.Ytklmhkckhdmelaa
