/- Lists of elements of a prime field: how they lie in memory, and the program's making of one. -/
import Derived.Test.YtcjgoonkdjaccaaProg
import Derived.Test.YtcjgoonkdjaccaaPolyS
import Derived.Test.YtcjgoonkdjaccaaField
import Derived.Test.YtcjgoonkdjaccaaGrow
import Derived.Test.YtcjgoonkdjaccaaShare
namespace Go.Proofs.Ytcjgoonkdjaccaa
open Go Go.RowKit
theorem elemEl : Elem Try.prog 62 59 2 16 := ⟨Try.underlying62, by
  obtain ⟨i, hi, hz, h1, h2⟩ := info_parts (show (Try.prog.info? 59).map (fun i => (i.zero, i.size, i.bytes)) = some (some (.agg #[.int .i64 0, .int .i64 0]), 2, 16) by kernel_rfl)
  exact ⟨i, _, hi, hz, h1, h2, rfl⟩, by omega⟩
/-- The cells of a list of elements. -/
def elVals (p : Int) (zs : List Int) : List Value := match zs with
  | [] => []
  | z :: zs => .int .i64 p :: .int .i64 z :: elVals p zs
theorem elVals_length (p : Int) (zs : List Int) : (elVals p zs).length = 2 * zs.length := by
  induction zs with
  | nil => rfl
  | cons z zs ih => simp only [elVals, List.length_cons, ih]; omega
theorem elVals_snoc (p : Int) (zs : List Int) (z : Int) : elVals p (zs ++ [z]) = elVals p zs ++ [.int .i64 p, .int .i64 z] := by
  induction zs with
  | nil => rfl
  | cons y ys ih => simp only [List.cons_append, elVals, ih]
theorem elVals_at (p : Int) (zs : List Int) (j : Nat) (h : j < zs.length) : (elVals p zs)[2 * j]? = some (.int .i64 p) ∧ (elVals p zs)[2 * j + 1]? = some (.int .i64 (zs.getD j 0)) := by
  induction zs generalizing j with
  | nil => simp at h
  | cons y ys ih =>
    cases j with
    | zero => exact ⟨rfl, rfl⟩
    | succ j =>
      have := ih j (by simpa using h)
      rw [show 2 * (j + 1) = 2 * j + 1 + 1 by omega]
      simpa [elVals] using this
/-- A slice that the call builds: its first k elements. -/
structure GrowE (w wr : World) (v : Value) (k : Nat) (p : Int) (zs : List Int) : Prop where
  own : wr.ownsRow w.heap.size 59 2 v k (elVals p zs)
  low : Below w.heap.size w wr
section
variable {w wr w1 w2 : World} {v v' : Value} {k : Nat} {p : Int} {zs : List Int}
theorem GrowE.next (h : GrowE w wr v k p zs) (hb : Below wr.heap.size wr w1) : GrowE w w1 v k p zs := ⟨own_below h.own hb, h.low.trans (hb.mono h.low.size)⟩
theorem GrowE.alloc (h : GrowE w wr v k p zs) (o : Obj) : GrowE w (wr.alloc o) v k p zs := h.next ((Below.refl _ _).alloc (Nat.le_refl _) _)
theorem GrowE.size (h : GrowE w wr v k p zs) : w.heap.size ≤ wr.heap.size := h.low.size
theorem GrowE.app (h : GrowE w wr v k p zs) {n : Nat} {xs : List Value} {ys : List Int} (ho : w2.ownsRow w.heap.size 59 2 v' n xs) (hg : wr.grownBy w2 v.ownBlock) (he : xs = elVals p ys) : GrowE w w2 v' n p ys :=
  ⟨by rw [← he]; exact ho, below_own h.low h.own hg (Nat.le_refl _) h.low.size⟩
theorem GrowE.made (hb : Below w.heap.size w wr) (hg : wr.grownBy w1 none) (ho : w1.ownsRow w.heap.size 59 2 v 0 []) : GrowE w w1 v 0 p [] :=
  ⟨ho, hb.grown hg hb.size (fun k h => by cases h)⟩
end
/-- A slice of elements, in a block below B. -/
def ElsB (B : Nat) (w : World) (A : Option Addr) (p : Int) (zs : List Int) : Prop :=
  0 < zs.length → ∃ b, A = some ⟨b, 0, none⟩ ∧ b < B ∧ ∀ j, j < zs.length → w.cell? ⟨b, j * 2, none⟩ = some (.int .i64 p) ∧ w.cell? ⟨b, j * 2 + 1, none⟩ = some (.int .i64 (zs.getD j 0))
theorem ElsB.below {B : Nat} {w w' : World} {A : Option Addr} {p : Int} {zs : List Int} (h : ElsB B w A p zs) (hb : Below B w w') : ElsB B w' A p zs := fun h0 => by
  obtain ⟨b, e, hl, hc⟩ := h h0
  exact ⟨b, e, hl, fun j hj => ⟨(hb.cell (p := ⟨b, j * 2, none⟩) hl).trans (hc j hj).1, (hb.cell (p := ⟨b, j * 2 + 1, none⟩) hl).trans (hc j hj).2⟩⟩
theorem ElsB.at_ {B : Nat} {w : World} {A : Option Addr} {p : Int} {zs : List Int} {j : Nat} (h : ElsB B w A p zs) (hj : j < zs.length) :
    ∃ b, A = some ⟨b, 0, none⟩ ∧ b < B ∧ w.cell? ⟨b, j * 2, none⟩ = some (.int .i64 p) ∧ w.cell? ⟨b, j * 2 + 1, none⟩ = some (.int .i64 (zs.getD j 0)) := by
  obtain ⟨b, e, hl, hc⟩ := h (by omega)
  exact ⟨b, e, hl, hc j hj⟩
theorem ElsB.of_own {w : World} {base n c : Nat} {A : Option Addr} {p : Int} {zs : List Int} (h : w.ownsRow base 59 2 (.slice A n c) n (elVals p zs)) : ElsB w.heap.size w A p zs ∧ zs.length = n := by
  have hl : zs.length = n := by have := h.1; rw [elVals_length] at this; omega
  refine ⟨fun h0 => ?_, hl⟩
  rcases h.2 with ⟨he, h1⟩ | ⟨g, cap, cur, he, hg, hh, _⟩
  · omega
  · injection he with he1 he2 he3
    subst he1 he3
    refine ⟨g, rfl, (Array.getElem?_eq_some_iff.1 hh).1, fun j hj => ?_⟩
    have := elVals_at p zs j hj
    rw [Nat.mul_comm 2 j] at this
    rw [h.cellAt (j * 2) (by omega), h.cellAt (j * 2 + 1) (by omega)]
    exact this
/-- The program's list of elements, where all numbers are. -/
def MadeE (p : Int) (zs : List Int) (w : World) (e : Ending) (w' : World) : Prop :=
  ∃ (A : Option Addr) (m c : Nat), e = .returned (.tuple #[.slice A m c, .bool true]) ∧ zs.length = m ∧ ElsB w'.heap.size w' A p zs ∧ Below w.heap.size w w'
theorem GrowE.done {w wr : World} {v : Value} {k : Nat} {p : Int} {zs : List Int} (h : GrowE w wr v k p zs) : MadeE p zs w (.returned (.tuple #[v, .bool true])) wr := by
  obtain ⟨A, m, c, rfl, rfl⟩ := ownsRow_slice h.own
  obtain ⟨h1, h2⟩ := ElsB.of_own h.own
  exact ⟨A, k, c, rfl, h2, h1, h.low⟩
set_option maxRecDepth 100000 in
set_option maxHeartbeats 1000000 in
theorem impl_newElements_yes (p : Int) (A : Option Addr) (n c : Nat) (xs : List Int) (w : World) (hx : Ints w A xs) (lx : xs.length = n) (mx : n ≤ 2000000) (ha : ∀ x ∈ xs, isEl p x) :
    Calls Try.prog 48 #[.int .i64 p, .slice A n c] w (MadeE p xs w) := by
  have LX := Lib.hid lx
  clear lx
  go_enter Try.func48, Try.ntmps48
  go_wp2_with (first | (refine make_list elemEl rfl _ _ rfl w.heap.size _ _ n n rfl rfl (by omega) (by omega) (by unfold maxLen; omega) (Nat.le_refl _) ?_))
  intro w3 hown3 hg3
  have Hg := Lib.hid (GrowE.made (p := p) (Below.refl _ _) hg3 hown3)
  clear hown3 hg3
  go_wp2_with fail
  go_loopw [6, 16] (fun v i wr => ∃ k : Nat, k ≤ n ∧ i = .int .i64 k ∧ GrowE w wr v k p (xs.take k)) (fun _ i _ => n - (intOf i).toNat)
  case atStart => exact ⟨0, Nat.zero_le _, rfl, Hg.out⟩
  case round =>
    obtain ⟨k, hk, rfl, gr⟩ := hrel
    clear Hg
    by_cases hlt : k < n
    · obtain ⟨b, o, rfl, _, c0⟩ := (hx.bound.below gr.low).at_ (j := k) (by rw [LX.out]; exact hlt)
      have hel : isEl p (xs.getD k 0) := ha _ (by rw [List.getD_eq_getElem?_getD, List.getElem?_eq_getElem (by rw [LX.out]; exact hlt)]; exact List.getElem_mem _)
      have hv : elVals p (xs.take k) ++ (#[Value.int .i64 p, .int .i64 (xs.getD k 0)] : Array Value).toList = elVals p (xs.take (k + 1)) := by
        have e : xs.take (k + 1) = xs.take k ++ [xs.getD k 0] := by
          rw [List.take_add_one, List.getD_eq_getElem?_getD, List.getElem?_eq_getElem (by rw [LX.out]; exact hlt)]
          rfl
        rw [e, elVals_snoc]
      have Hv := Lib.hid hv
      have Hel := Lib.hid hel
      clear hv hel ha hx
      generalize xs.getD k 0 = x at c0 Hv Hel
      have k0 : (0 : Int) ≤ k := by omega
      have k1 : (k : Int) < n := by omega
      go_wp2_with fail
      refine (impl_newElement_yes p x Hel.out wr).mono ?_
      rintro e w4 ⟨rfl, hb⟩
      replace gr := gr.next hb
      clear hb c0
      have g5 := (gr.alloc (.cells #[.int .i64 p, .int .i64 x] 59)).alloc (.cells #[.int .i64 p, .int .i64 x] 59)
      have hblk : ((w4.alloc (.cells #[.int .i64 p, .int .i64 x] 59)).alloc (.cells #[.int .i64 p, .int .i64 x] 59)).heap[w4.heap.size + 1]? = some (.cells #[.int .i64 p, .int .i64 x] 59 (0, 0)) := by
        have := heap_alloc_new (w4.alloc (.cells #[.int .i64 p, .int .i64 x] 59)) (.cells #[.int .i64 p, .int .i64 x] 59)
        simpa using this
      have Hb := Lib.hid hblk
      clear gr hblk
      go_wp2_with (first | (at_builtin; refine app_list (e' := 59) elemEl rfl _ _ rfl w.heap.size _ k (elVals p (xs.take k)) rfl g5.own (w4.heap.size + 1) 1 1 _ (0, 0) rfl Hb.out rfl (oneCell_i64 [_, _]) (by omega) (by unfold maxLen; omega) (by omega) g5.size (w4.heap.size + 1 + 1) (by simp) ?_))
      intro g6 c6 w6 ho6 hg6 _ _
      have Hg := Lib.hid (g5.app ho6 hg6 Hv.out)
      clear ho6 hg6 g5
      go_wp2_with fail
      go_roundw
      case rel => exact ⟨k + 1, by omega, by go_num, Hg.out⟩
      case measure => simp [intOf]; omega
    · obtain rfl : k = n := by omega
      have Hgr := Lib.hid (show GrowE w wr _ k p xs by have := gr; rwa [List.take_of_length_le (by rw [LX.out]; exact Nat.le_refl _)] at this)
      go_wp2_with fail
      go_ret2
      exact Hgr.out.done
set_option maxRecDepth 100000 in
set_option maxHeartbeats 1000000 in
theorem impl_newElements_no (p : Int) (A : Option Addr) (n c : Nat) (xs : List Int) (w : World) (hx : Ints w A xs) (lx : xs.length = n) (mx : n ≤ 2000000) (ha : ¬ ∀ x ∈ xs, isEl p x) :
    Calls Try.prog 48 #[.int .i64 p, .slice A n c] w fun e w' => e = .returned (.tuple #[.slice none 0 0, .bool false]) ∧ Below w.heap.size w w' := by
  have LX := Lib.hid lx
  have Ha := Lib.hid ha
  clear lx ha
  go_enter Try.func48, Try.ntmps48
  go_wp2_with (first | (refine make_list elemEl rfl _ _ rfl w.heap.size _ _ n n rfl rfl (by omega) (by omega) (by unfold maxLen; omega) (Nat.le_refl _) ?_))
  intro w3 hown3 hg3
  have Hg := Lib.hid (GrowE.made (p := p) (Below.refl _ _) hg3 hown3)
  clear hown3 hg3
  go_wp2_with fail
  go_loopw [6, 16] (fun v i wr => ∃ k : Nat, k ≤ n ∧ i = .int .i64 k ∧ GrowE w wr v k p (xs.take k) ∧ Hid (elsTo p xs k)) (fun _ i _ => n - (intOf i).toNat)
  case atStart => exact ⟨0, Nat.zero_le _, rfl, Hg.out, fun _ h => by omega⟩
  case round =>
    obtain ⟨k, hk, rfl, gr, hels⟩ := hrel
    clear Hg
    by_cases hlt : k < n
    · obtain ⟨b, o, rfl, _, c0⟩ := (hx.bound.below gr.low).at_ (j := k) (by rw [LX.out]; exact hlt)
      have Hnx : Hid (isEl p (xs.getD k 0) → elsTo p xs (k + 1)) := fun e => elsTo_next hels.out e
      have hv : elVals p (xs.take k) ++ (#[Value.int .i64 p, .int .i64 (xs.getD k 0)] : Array Value).toList = elVals p (xs.take (k + 1)) := by
        have e : xs.take (k + 1) = xs.take k ++ [xs.getD k 0] := by
          rw [List.take_add_one, List.getD_eq_getElem?_getD, List.getElem?_eq_getElem (by rw [LX.out]; exact hlt)]
          rfl
        rw [e, elVals_snoc]
      have Hv := Lib.hid hv
      clear hv hx hels
      generalize xs.getD k 0 = x at c0 Hv Hnx
      have k0 : (0 : Int) ≤ k := by omega
      have k1 : (k : Int) < n := by omega
      by_cases hel : isEl p x
      · have Hnx' := Lib.hid (Hnx.out hel)
        clear Hnx
        go_wp2_with fail
        refine (impl_newElement_yes p x hel wr).mono ?_
        rintro e w4 ⟨rfl, hb⟩
        replace gr := gr.next hb
        clear hb c0
        have g5 := (gr.alloc (.cells #[.int .i64 p, .int .i64 x] 59)).alloc (.cells #[.int .i64 p, .int .i64 x] 59)
        have hblk : ((w4.alloc (.cells #[.int .i64 p, .int .i64 x] 59)).alloc (.cells #[.int .i64 p, .int .i64 x] 59)).heap[w4.heap.size + 1]? = some (.cells #[.int .i64 p, .int .i64 x] 59 (0, 0)) := by
          have := heap_alloc_new (w4.alloc (.cells #[.int .i64 p, .int .i64 x] 59)) (.cells #[.int .i64 p, .int .i64 x] 59)
          simpa using this
        have Hb := Lib.hid hblk
        clear gr hblk
        go_wp2_with (first | (at_builtin; refine app_list (e' := 59) elemEl rfl _ _ rfl w.heap.size _ k (elVals p (xs.take k)) rfl g5.own (w4.heap.size + 1) 1 1 _ (0, 0) rfl Hb.out rfl (oneCell_i64 [_, _]) (by omega) (by unfold maxLen; omega) (by omega) g5.size (w4.heap.size + 1 + 1) (by simp) ?_))
        intro g6 c6 w6 ho6 hg6 _ _
        have Hg := Lib.hid (g5.app ho6 hg6 Hv.out)
        clear ho6 hg6 g5
        go_wp2_with fail
        go_roundw
        case rel => exact ⟨k + 1, by omega, by go_num, Hg.out, Hnx'.out⟩
        case measure => simp [intOf]; omega
      · clear Hnx Hv
        go_wp2_with fail
        refine (impl_newElement_no p x hel wr).mono ?_
        rintro e w4 ⟨rfl, hb⟩
        replace gr := gr.next hb
        have low := (gr.alloc (.cells #[.int .i64 0, .int .i64 0] 59)).low
        clear hb c0 gr
        go_wp2_with fail
        go_ret2
        exact ⟨rfl, low⟩
    · obtain rfl : k = n := by omega
      exact absurd (fun x hx => by
        obtain ⟨j, hj, rfl⟩ := List.mem_iff_getElem.1 hx
        have := hels.out j (by rw [← LX.out]; exact hj)
        rwa [List.getD_eq_getElem?_getD, List.getElem?_eq_getElem hj] at this) Ha.out
theorem not_allE {p : Int} {xs : List Int} {k : Nat} (hk : k < xs.length) (h : ¬ isEl p (xs.getD k 0)) : ¬ ∀ x ∈ xs, isEl p x := fun e => h (by
  rw [List.getD_eq_getElem?_getD, List.getElem?_eq_getElem hk]
  exact e _ (List.getElem_mem _))
end Go.Proofs.Ytcjgoonkdjaccaa
