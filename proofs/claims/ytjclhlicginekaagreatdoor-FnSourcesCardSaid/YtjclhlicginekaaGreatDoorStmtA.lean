/- Lists of statements: how they lie in memory, the laws' copying and comparing of them. No condition. -/
import Derived.Test.YtjclhlicginekaaGreatDoorProg
import Derived.Test.YtjclhlicginekaaGreatDoorStM
import Derived.Test.YtjclhlicginekaaGreatDoorIntsX
import Derived.Test.YtjclhlicginekaaGreatDoorSeg
import Derived.Test.YtjclhlicginekaaGreatDoorBlk
import Derived.Test.YtjclhlicginekaaGreatDoorPost
import Derived.Handy
namespace Go.Proofs.YtjclhlicginekaaGreatDoor
open Go Go.RowKit
def s0 : St := ⟨0, 0, 0, 0, 0, 0⟩
/-- The numbers of a list of statements, one behind the other. -/
def flat (ss : List St) : List Int := match ss with
  | [] => []
  | s :: ss => s.op :: s.d :: s.a :: s.b :: s.c :: s.n :: flat ss
theorem flat_length (ss : List St) : (flat ss).length = ss.length * 6 := by
  induction ss with
  | nil => rfl
  | cons s ss ih => simp only [flat, List.length_cons, ih]; omega
theorem flat_append (ss ts : List St) : flat (ss ++ ts) = flat ss ++ flat ts := by
  induction ss with
  | nil => rfl
  | cons s ss ih => simp only [List.cons_append, flat, ih]
theorem flat_at (ss : List St) (j : Nat) (h : j < ss.length) : (flat ss).getD (j * 6) 0 = (ss.getD j s0).op ∧ (flat ss).getD (j * 6 + 1) 0 = (ss.getD j s0).d ∧ (flat ss).getD (j * 6 + 2) 0 = (ss.getD j s0).a ∧
    (flat ss).getD (j * 6 + 3) 0 = (ss.getD j s0).b ∧ (flat ss).getD (j * 6 + 4) 0 = (ss.getD j s0).c ∧ (flat ss).getD (j * 6 + 5) 0 = (ss.getD j s0).n := by
  induction ss generalizing j with
  | nil => simp at h
  | cons s ss ih =>
    cases j with
    | zero => exact ⟨rfl, rfl, rfl, rfl, rfl, rfl⟩
    | succ j =>
      have := ih j (by simpa using h)
      rw [show (j + 1) * 6 = j * 6 + 1 + 1 + 1 + 1 + 1 + 1 by omega]
      simpa [flat] using this
theorem cell6 {B : Nat} {w : World} {A : Option Addr} {ss : List St} {j : Nat} (h : IntsB B w A (flat ss)) (hj : j < ss.length) {op d a b c n : Int} (e : ss.getD j s0 = ⟨op, d, a, b, c, n⟩) :
    ∃ g o, A = some ⟨g, o, none⟩ ∧ g < B ∧ w.cell? ⟨g, o + j * 6, none⟩ = some (.int .i64 op) ∧ w.cell? ⟨g, o + j * 6 + 1, none⟩ = some (.int .i64 d) ∧ w.cell? ⟨g, o + j * 6 + 2, none⟩ = some (.int .i64 a) ∧
      w.cell? ⟨g, o + j * 6 + 3, none⟩ = some (.int .i64 b) ∧ w.cell? ⟨g, o + j * 6 + 4, none⟩ = some (.int .i64 c) ∧ w.cell? ⟨g, o + j * 6 + 5, none⟩ = some (.int .i64 n) := by
  have hl := flat_length ss
  obtain ⟨e0, e1, e2, e3, e4, e5⟩ := flat_at ss j hj
  rw [e] at e0 e1 e2 e3 e4 e5
  obtain ⟨g, o, hA, hb, hc⟩ := h (by omega)
  exact ⟨g, o, hA, hb, (hc (j * 6) (by omega)).trans (by rw [e0]), (hc (j * 6 + 1) (by omega)).trans (by rw [e1]), (hc (j * 6 + 2) (by omega)).trans (by rw [e2]), (hc (j * 6 + 3) (by omega)).trans (by rw [e3]), (hc (j * 6 + 4) (by omega)).trans (by rw [e4]), (hc (j * 6 + 5) (by omega)).trans (by rw [e5])⟩
set_option maxRecDepth 100000 in
theorem eqStmt_any (op d a b c n : Int) (w : World) :
    Calls Tryz.prog 30 #[.agg #[.int .i64 op, .int .i64 d, .int .i64 a, .int .i64 b, .int .i64 c, .int .i64 n], .agg #[.int .i64 op, .int .i64 d, .int .i64 a, .int .i64 b, .int .i64 c, .int .i64 n]] w fun e w' => e = .returned (.bool true) ∧ Below w.heap.size w w' := by
  go_enter Tryz.func30, Tryz.ntmps30
  go_wp2_with fail
  go_ret
  exact ⟨rfl, low_alloc (below_alloc _ _) _⟩
theorem toList_six (z : Value) (n : Nat) : (madeCells #[z, z, z, z, z, z] n).toList = List.replicate n z := by
  apply List.ext_getElem?
  intro j
  by_cases hj : j < n
  · have h6 : j % 6 = 0 ∨ j % 6 = 1 ∨ j % 6 = 2 ∨ j % 6 = 3 ∨ j % 6 = 4 ∨ j % 6 = 5 := by omega
    simp [madeCells, hj]
    rcases h6 with h | h | h | h | h | h <;> rw [h] <;> rfl
  · simp [madeCells, hj]
theorem elemStmt : Elem Tryz.prog 24 34 6 48 := ⟨Tryz.underlying24, by
  obtain ⟨i, hi, hz, h1, h2⟩ := info_parts (show (Tryz.prog.info? 34).map (fun i => (i.zero, i.size, i.bytes)) = some (some (.agg #[.int .i64 0, .int .i64 0, .int .i64 0, .int .i64 0, .int .i64 0, .int .i64 0]), 6, 48) by kernel_rfl)
  exact ⟨i, _, hi, hz, h1, h2, rfl⟩, by omega⟩
theorem make_fullS {w : World} {ops : Array Oper} {rest : List Oper} {o : Oper} {a : Act} {Q : Exit → Act → World → Prop} (hgd : o.guard = none) (l c : Operand)
    (ho : o.op = Op.makeSlice 24 l c) (base : Nat) (kl kc : IntKind) (L C : Int) (n : Nat) (hl : a.eval l = .int kl L) (hc : a.eval c = .int kc C) (hL : L = (n : Int)) (hC : C = (n : Int)) (b2 : 48 * n ≤ 281474976710656) (b3 : n ≤ maxLen) (b4 : base ≤ w.heap.size)
    (h : ∀ w', w'.ownsRow base 34 6 (.slice (some ⟨w.heap.size, 0, none⟩) n n) n (List.replicate (n * 6) (.int .i64 0)) → w.grownBy w' none → wpList Tryz.prog ops Q rest (a.put o.dst (.slice (some ⟨w.heap.size, 0, none⟩) n n)) w') :
    wpList Tryz.prog ops Q (o :: rest) a w := by
  obtain ⟨i, hi, hz, h1, h2⟩ := info_parts (show (Tryz.prog.info? 34).map (fun i => (i.zero, i.size, i.bytes)) = some (some (.agg #[.int .i64 0, .int .i64 0, .int .i64 0, .int .i64 0, .int .i64 0, .int .i64 0]), 6, 48) by kernel_rfl)
  refine wpList_make_full w hgd l c _ ho base 34 i _ 6 Tryz.underlying24 hi hz h1 kl kc L C n hl hc hL hC (by rw [h2]; exact b2) b3 b4 fun w' r1 r2 => h w' ?_ r2
  rw [show (Value.agg #[.int .i64 0, .int .i64 0, .int .i64 0, .int .i64 0, .int .i64 0, .int .i64 0]).cells = #[.int .i64 0, .int .i64 0, .int .i64 0, .int .i64 0, .int .i64 0, .int .i64 0] from rfl, toList_six] at r1
  exact r1
/-- A list of statements of the call's own. -/
def OwnS (lo : Nat) (w : World) (v : Value) (n : Nat) (ss : List St) : Prop := w.ownsRow lo 34 6 v n (intVals (flat ss))
theorem OwnS.ints {w : World} {base n c : Nat} {A : Option Addr} {ss : List St} (h : OwnS base w (.slice A n c) n ss) : Ints w A (flat ss) ∧ ss.length = n := by
  have hl : ss.length = n := by have := h.1; rw [intVals_length, flat_length] at this; omega
  refine ⟨fun h0 => ?_, hl⟩
  rcases h.2 with ⟨he, h1⟩ | ⟨g, cap, cur, he, hg, hh, _⟩
  · simp [flat_length] at h0; omega
  · injection he with he1 he2 he3
    subst he1 he3
    refine ⟨g, 0, rfl, (Array.getElem?_eq_some_iff.1 hh).1, fun j hj => ?_⟩
    have hj' : j < n * 6 := by rw [flat_length] at hj; omega
    have := h.cellAt j hj'
    rw [Nat.zero_add, this]
    simp [intVals, List.getElem?_map, List.getD_eq_getElem?_getD, List.getElem?_eq_getElem hj]
theorem six_row {w : World} {base g n c : Nat} {zs : List Int} {k : Nat} {a0 a1 a2 a3 a4 a5 : Int} (h : w.ownsRow base 34 6 (.slice (some ⟨g, 0, none⟩) n c) n (partVals zs (n * 6) (k * 6))) (hl : zs.length = n * 6) (hk : k < n)
    (e0 : zs.getD (k * 6) 0 = a0) (e1 : zs.getD (k * 6 + 1) 0 = a1) (e2 : zs.getD (k * 6 + 2) 0 = a2) (e3 : zs.getD (k * 6 + 3) 0 = a3) (e4 : zs.getD (k * 6 + 4) 0 = a4) (e5 : zs.getD (k * 6 + 5) 0 = a5) :
    ((((((w.setCell ⟨g, k * 6, none⟩ (.int .i64 a0)).setCell ⟨g, k * 6 + 1, none⟩ (.int .i64 a1)).setCell ⟨g, k * 6 + 2, none⟩ (.int .i64 a2)).setCell ⟨g, k * 6 + 3, none⟩ (.int .i64 a3)).setCell ⟨g, k * 6 + 4, none⟩ (.int .i64 a4)).setCell ⟨g, k * 6 + 5, none⟩ (.int .i64 a5)).ownsRow base 34 6 (.slice (some ⟨g, 0, none⟩) n c) n (partVals zs (n * 6) ((k + 1) * 6)) := by
  subst e0 e1 e2 e3 e4 e5
  have h0 := (h.stored (k * 6) (.int .i64 (zs.getD (k * 6) 0))).1
  rw [partVals_set hl (by omega)] at h0
  have h1 := (h0.stored (k * 6 + 1) (.int .i64 (zs.getD (k * 6 + 1) 0))).1
  rw [partVals_set hl (by omega)] at h1
  have h2 := (h1.stored (k * 6 + 2) (.int .i64 (zs.getD (k * 6 + 2) 0))).1
  rw [partVals_set hl (by omega)] at h2
  have h3 := (h2.stored (k * 6 + 3) (.int .i64 (zs.getD (k * 6 + 3) 0))).1
  rw [partVals_set hl (by omega)] at h3
  have h4 := (h3.stored (k * 6 + 4) (.int .i64 (zs.getD (k * 6 + 4) 0))).1
  rw [partVals_set hl (by omega)] at h4
  have h5 := (h4.stored (k * 6 + 5) (.int .i64 (zs.getD (k * 6 + 5) 0))).1
  rw [partVals_set hl (by omega)] at h5
  rw [show (k + 1) * 6 = k * 6 + 5 + 1 by omega]
  exact h5
/-- A list of statements of the call's own, its block between lo and hi. -/
structure OwnSt (lo hi : Nat) (w : World) (v : Value) (n : Nat) (ss : List St) : Prop where
  own : OwnS lo w v n ss
  top : ∀ k, v.ownBlock = some k → k < hi
theorem OwnSt.below {lo hi n : Nat} {w w1 : World} {v : Value} {ss : List St} (h : OwnSt lo hi w v n ss) (hb : Below w.heap.size w w1) : OwnSt lo hi w1 v n ss := ⟨own_below h.own hb, h.top⟩
theorem OwnSt.alloc {lo hi n : Nat} {w : World} {v : Value} {ss : List St} (h : OwnSt lo hi w v n ss) (o : Obj) : OwnSt lo hi (w.alloc o) v n ss := h.below (below_alloc w o)
theorem OwnSt.ints {lo hi n c : Nat} {w : World} {A : Option Addr} {ss : List St} (h : OwnSt lo hi w (.slice A n c) n ss) : Ints w A (flat ss) := (OwnS.ints h.own).1
theorem OwnSt.of_own {lo n : Nat} {w : World} {v : Value} {ss : List St} (h : OwnS lo w v n ss) : OwnSt lo w.heap.size w v n ss := ⟨h, fun k e => (World.ownsRow.lt h k e).2⟩
set_option maxRecDepth 100000 in
set_option maxHeartbeats 1000000 in
theorem eqStmtS_same (n m c1 c2 : Nat) (A B : Option Addr) (xs ys : List St) (w : World) (ha : Ints w A (flat xs)) (hb : Ints w B (flat ys)) (he : xs = ys) (hl : xs.length = n) (hm : ys.length = m) (hn : n ≤ 1000000000000) :
    Calls Tryz.prog 14 #[.slice A n c1, .slice B m c2] w fun e w' => e = .returned (.bool true) ∧ Below w.heap.size w w' := by
  subst he
  obtain rfl : n = m := hl.symm.trans hm
  clear hm
  go_enter Tryz.func14, Tryz.ntmps14
  go_wp2_with fail
  go_loopw [5] (fun i wr => ∃ k : Nat, k ≤ n ∧ i = .int .i64 k ∧ Below w.heap.size w wr) (fun i _ => n - (intOf i).toNat)
  case atStart => exact ⟨0, Nat.zero_le _, rfl, Below.refl _ _⟩
  case round =>
    obtain ⟨k, hk, rfl, hlow⟩ := hrel
    by_cases hlt : k < n
    · rcases hs : xs.getD k s0 with ⟨op, d, a, b, c, m⟩
      obtain ⟨g, o, rfl, -, q0, q1, q2, q3, q4, q5⟩ := cell6 (ha.bound.below hlow) (by omega) hs
      obtain ⟨g', o', rfl, -, r0, r1, r2, r3, r4, r5⟩ := cell6 (hb.bound.below hlow) (by omega) hs
      have k0 : (0 : Int) ≤ k := by omega
      have k1 : (k : Int) < n := by omega
      clear ha hb hs
      go_wp2_with fail
      go_region_with (first | (go_at_call 30; refine (eqStmt_any _ _ _ _ _ _ _).mono ?_; rintro e w2 ⟨rfl, hb2⟩))
      all_goals
        have hlow2 := hlow.drew.trans (hb2.mono hlow.size)
        clear hb2 hlow q0 q1 q2 q3 q4 q5 r0 r1 r2 r3 r4 r5
        go_wp2_with fail
        go_roundw
        case rel => exact ⟨k + 1, by omega, by go_num, hlow2⟩
        case measure => simp [intOf]; omega
    · obtain rfl : k = n := by omega
      clear ha hb
      go_wp2_with fail
      go_ret
      exact ⟨rfl, hlow⟩
end Go.Proofs.YtjclhlicginekaaGreatDoor
