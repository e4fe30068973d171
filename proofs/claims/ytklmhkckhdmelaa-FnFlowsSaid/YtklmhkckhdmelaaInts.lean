/- Slices of ints: reading, copying (laws.toIntS), comparing (laws.eqIntS). -/
import Derived.Test.YtklmhkckhdmelaaProg
import Derived.Test.YtklmhkckhdmelaaDraw
import Derived.Handy
namespace Go.Proofs.Ytklmhkckhdmelaa
open Go Go.RowKit
def intVals (zs : List Int) : List Value := zs.map (Value.int .i64)
theorem intVals_length (zs : List Int) : (intVals zs).length = zs.length := by simp [intVals]
/-- A slice reads as these numbers. -/
def Ints (w : World) (A : Option Addr) (zs : List Int) : Prop :=
  0 < zs.length → ∃ b o, A = some ⟨b, o, none⟩ ∧ b < w.heap.size ∧ ∀ j, j < zs.length → w.cell? ⟨b, o + j, none⟩ = some (.int .i64 (zs.getD j 0))
theorem Ints.nil (w : World) (A : Option Addr) : Ints w A [] := fun h => absurd h (by simp)
theorem Ints.below {w w' : World} {A : Option Addr} {zs : List Int} (h : Ints w A zs) (hb : Below w.heap.size w w') : Ints w' A zs := fun h0 => by
  obtain ⟨b, o, e, hl, hc⟩ := h h0
  exact ⟨b, o, e, Nat.lt_of_lt_of_le hl hb.size, fun j hj => (hb.cell (p := ⟨b, o + j, none⟩) hl).trans (hc j hj)⟩
/-- Blocks behind B turned, and the slice lies below B. -/
def IntsB (B : Nat) (w : World) (A : Option Addr) (zs : List Int) : Prop :=
  0 < zs.length → ∃ b o, A = some ⟨b, o, none⟩ ∧ b < B ∧ ∀ j, j < zs.length → w.cell? ⟨b, o + j, none⟩ = some (.int .i64 (zs.getD j 0))
theorem Ints.bound {w : World} {A : Option Addr} {zs : List Int} (h : Ints w A zs) : IntsB w.heap.size w A zs := h
theorem IntsB.below {B : Nat} {w w' : World} {A : Option Addr} {zs : List Int} (h : IntsB B w A zs) (hb : Below B w w') : IntsB B w' A zs := fun h0 => by
  obtain ⟨b, o, e, hl, hc⟩ := h h0
  exact ⟨b, o, e, hl, fun j hj => (hb.cell (p := ⟨b, o + j, none⟩) hl).trans (hc j hj)⟩
theorem IntsB.at_ {B : Nat} {w : World} {A : Option Addr} {zs : List Int} {j : Nat} (h : IntsB B w A zs) (hj : j < zs.length) :
    ∃ b o, A = some ⟨b, o, none⟩ ∧ b < B ∧ w.cell? ⟨b, o + j, none⟩ = some (.int .i64 (zs.getD j 0)) := by
  obtain ⟨b, o, e, hl, hc⟩ := h (by omega)
  exact ⟨b, o, e, hl, hc j hj⟩
theorem Ints.at_ {w : World} {A : Option Addr} {zs : List Int} {j : Nat} (h : Ints w A zs) (hj : j < zs.length) :
    ∃ b o, A = some ⟨b, o, none⟩ ∧ b < w.heap.size ∧ w.cell? ⟨b, o + j, none⟩ = some (.int .i64 (zs.getD j 0)) := h.bound.at_ hj
theorem IntsB.ints {B : Nat} {w : World} {A : Option Addr} {zs : List Int} (h : IntsB B w A zs) (hB : B ≤ w.heap.size) : Ints w A zs := fun h0 => by
  obtain ⟨b, o, e, hl, hc⟩ := h h0
  exact ⟨b, o, e, by omega, hc⟩
theorem Ints.of_own {w : World} {base n c : Nat} {e : TypeId} {A : Option Addr} {zs : List Int} (h : w.ownsRow base e 1 (.slice A n c) n (intVals zs)) : Ints w A zs := fun h0 => by
  have hl : zs.length = n := by have := h.1; rw [intVals_length] at this; omega
  rcases h.2 with ⟨he, h1⟩ | ⟨g, cap, cur, he, hg, hh, _⟩
  · omega
  · injection he with he1 he2 he3
    subst he1 he3
    refine ⟨g, 0, rfl, (Array.getElem?_eq_some_iff.1 hh).1, fun j hj => ?_⟩
    rw [Nat.zero_add, h.cellAt j (by omega)]
    simp [intVals, List.getElem?_map, List.getElem?_eq_getElem hj]
/-- What an argument's reading says. -/
theorem Ints.of_row {w : World} {x : Addr} {len cap : Nat} {zs : List Int} (hl : len ≤ cap) (hz : zs.length = cap)
    (hcell : ∀ i, i < zs.length → w.cell? (x.add i) = some (.int .i64 (zs.getD i 0))) : Ints w (some x) (zs.take len) ∧ (zs.take len).length = len := by
  have hlen : (zs.take len).length = len := by rw [List.length_take]; omega
  refine ⟨fun h0 => ?_, hlen⟩
  rw [hlen] at h0
  obtain ⟨b, o, spot⟩ := x
  have h00 := hcell 0 (by omega)
  have hs : spot = none := by simpa [Addr.add] using World.cell?_spot h00
  subst hs
  refine ⟨b, o, rfl, ?_, fun k hk => ?_⟩
  · have := World.block_lt_of_cell? w _ h00
    simpa [Addr.add] using this
  · rw [hlen] at hk
    have hc := hcell k (by omega)
    rw [List.getD_eq_getElem?_getD, List.getElem?_take_of_lt hk, ← List.getD_eq_getElem?_getD, ← hc]
    rcases Nat.eq_zero_or_pos k with h | h
    · subst h; simp [Addr.add]
    · simp [Addr.add, Nat.ne_of_gt h]
theorem elemInt : Elem Try.prog 26 3 1 8 := ⟨Try.underlying26, by
  obtain ⟨i, hi, hz, h1, h2⟩ := info_parts (show (Try.prog.info? 3).map (fun i => (i.zero, i.size, i.bytes)) = some (some (.int .i64 0), 1, 8) by kernel_rfl)
  exact ⟨i, _, hi, hz, h1, h2, rfl⟩, by omega⟩
theorem infoInt : ∃ i, Try.prog.info? 3 = some i ∧ i.zero = some (.int .i64 0) ∧ i.size = 1 ∧ i.bytes = 8 := by
  obtain ⟨i, hi, hz, h1, h2⟩ := info_parts (show (Try.prog.info? 3).map (fun i => (i.zero, i.size, i.bytes)) = some (some (.int .i64 0), 1, 8) by kernel_rfl)
  exact ⟨i, hi, hz, h1, h2⟩
theorem make_fullI {P : Program} {t e : TypeId} {bytes : Nat} {z : Value} {w : World} (ht : P.underlying t = some (.slice e)) (hinfo : ∃ i, P.info? e = some i ∧ i.zero = some z ∧ i.size = 1 ∧ i.bytes = bytes) (hz : z.cells = #[z]) {ops : Array Oper} {rest : List Oper} {o : Oper} {a : Act} {Q : Exit → Act → World → Prop} (hgd : o.guard = none) (l c : Operand)
    (ho : o.op = Op.makeSlice t l c) (base : Nat) (kl kc : IntKind) (L C : Int) (n : Nat) (hl : a.eval l = .int kl L) (hc : a.eval c = .int kc C) (hL : L = (n : Int)) (hC : C = (n : Int)) (b2 : bytes * n ≤ 281474976710656) (b3 : n ≤ maxLen) (b4 : base ≤ w.heap.size)
    (h : ∀ w', w'.ownsRow base e 1 (.slice (some ⟨w.heap.size, 0, none⟩) n n) n (List.replicate n z) → w.grownBy w' none → wpList P ops Q rest (a.put o.dst (.slice (some ⟨w.heap.size, 0, none⟩) n n)) w') :
    wpList P ops Q (o :: rest) a w := by
  obtain ⟨i, hi, hz0, hz1, hz2⟩ := hinfo
  refine wpList_make_full w hgd l c t ho base e i z 1 ht hi hz0 hz1 kl kc L C n hl hc hL hC (by rw [hz2]; exact b2) b3 b4 fun w' r1 r2 => h w' ?_ r2
  rw [hz, Nat.mul_one, toList_madeCells_one] at r1
  exact r1
/-- The first k numbers copied, the rest still zero. -/
def partVals (zs : List Int) (n k : Nat) : List Value := intVals (zs.take k) ++ List.replicate (n - k) (Value.int .i64 0)
theorem partVals_zero (zs : List Int) (n : Nat) : partVals zs n 0 = List.replicate n (Value.int .i64 0) := by simp [partVals, intVals]
theorem partVals_all {zs : List Int} {n : Nat} (h : zs.length = n) : partVals zs n n = intVals zs := by
  subst h; simp [partVals]
theorem partVals_set {zs : List Int} {n k : Nat} (h : zs.length = n) (hk : k < n) : (partVals zs n k).set k (.int .i64 (zs.getD k 0)) = partVals zs n (k + 1) := by
  unfold partVals
  have hl : (intVals (zs.take k)).length = k := by rw [intVals_length, List.length_take]; omega
  rw [List.set_append_right _ _ (by omega), hl, Nat.sub_self, show n - k = (n - (k + 1)) + 1 by omega, List.replicate_succ, List.set_cons_zero]
  have e : zs.take (k + 1) = zs.take k ++ [zs.getD k 0] := by
    rw [List.take_add_one, List.getD_eq_getElem?_getD, List.getElem?_eq_getElem (by omega)]
    rfl
  rw [e]
  simp [intVals]
theorem partVals_at {zs : List Int} {n k : Nat} (h : zs.length = n) (hk : k < n) : (partVals zs n k)[k]? = some (.int .i64 0) := by
  unfold partVals
  have hl : (intVals (zs.take k)).length = k := by rw [intVals_length, List.length_take]; omega
  rw [List.getElem?_append_right (by omega), hl, Nat.sub_self, List.getElem?_replicate_of_lt (by omega)]
theorem toIntS_any (A : Option Addr) (n c : Nat) (zs : List Int) (w : World) (hr : Ints w A zs) (hl : zs.length = n) (hn : n ≤ 2000000) :
    Calls Try.prog 33 #[.slice A n c] w fun e w' => ∃ g, e = .returned (.slice (some ⟨g, 0, none⟩) n n) ∧ w'.ownsRow w.heap.size 3 1 (.slice (some ⟨g, 0, none⟩) n n) n (intVals zs) ∧ Below w.heap.size w w' := by
  go_enter Try.func33, Try.ntmps33
  go_wp2_with (first | (refine make_fullI Try.underlying26 infoInt rfl rfl _ _ rfl w.heap.size _ _ _ _ n rfl rfl rfl rfl (by omega) (by unfold maxLen; omega) (Nat.le_refl _) ?_))
  intro w1 hown1 hg1
  have hb1 : Below w.heap.size w w1 := (Below.refl _ _).grown hg1 (Nat.le_refl _) (fun k h => by cases h)
  have Hown1 := Lib.hid hown1
  clear hown1 hg1
  go_wp2_with fail
  go_loopw [4] (fun i wr => ∃ k : Nat, k ≤ n ∧ i = .int .i64 k ∧ wr.ownsRow w.heap.size 3 1 (.slice (some ⟨w.heap.size, 0, none⟩) n n) n (partVals zs n k) ∧ Below w.heap.size w wr) (fun i _ => n - (intOf i).toNat)
  case atStart => exact ⟨0, Nat.zero_le _, rfl, by rw [partVals_zero]; exact Hown1.out, hb1⟩
  case round =>
    obtain ⟨k, hk, rfl, hown, hb⟩ := hrel
    by_cases hlt : k < n
    · obtain ⟨b, o, rfl, hbl, hc⟩ := (hr.bound.below hb).at_ (j := k) (by omega)
      have hcell : wr.cell? ⟨w.heap.size, k, none⟩ = some (Value.int .i64 0) := by
        rw [hown.cellAt k (by omega)]; exact partVals_at hl hlt
      have hfr := hown.frozenAt k
      generalize hx : zs.getD k 0 = x at hc
      have hst := (hown.stored k (Value.int .i64 x)).1
      rw [← hx, partVals_set hl hlt, hx] at hst
      clear hx
      have hb2 : Below w.heap.size w (wr.setCell ⟨w.heap.size, k, none⟩ (Value.int .i64 x)) := hb.setCell (Nat.le_refl _) _
      have Hst := Lib.hid hst
      have Hb2 := Lib.hid hb2
      have hk0 : (0 : Int) ≤ k := by omega
      have hk1 : (k : Int) < n := by omega
      clear hown hst hb2 hr Hown1
      go_wp2_with fail
      go_roundw
      case rel => exact ⟨k + 1, by omega, by go_num, Hst.out, Hb2.out⟩
      case measure => simp [intOf]; omega
    · obtain rfl : k = n := by omega
      rw [partVals_all hl] at hown
      go_wp2_with fail
      go_ret
      exact ⟨_, rfl, hown, hb⟩
theorem eqIntS_any (n c1 m c2 : Nat) (A B : Option Addr) (xs ys : List Int) (w : World) (ha : Ints w A xs) (hb : Ints w B ys) (hl : xs.length = n) (hm : ys.length = m) (hn : n ≤ 1000000000000) :
    Calls Try.prog 27 #[.slice A n c1, .slice B m c2] w fun e w' => e = .returned (.bool (decide (xs = ys))) ∧ Below w.heap.size w w' := by
  by_cases hnm : n = m
  · subst hnm
    have Hl := Lib.hid hl
    have Hm := Lib.hid hm
    clear hl hm
    go_enter Try.func27, Try.ntmps27
    go_wp2_with fail
    go_loopw [5] (fun i wr => ∃ j : Nat, j ≤ n ∧ i = .int .i64 j ∧ Hid (∀ k, k < j → xs.getD k 0 = ys.getD k 0) ∧ Below w.heap.size w wr) (fun i _ => n - (intOf i).toNat)
    case atStart => exact ⟨0, Nat.zero_le _, rfl, fun k hk => by omega, Below.refl _ _⟩
    case round =>
      obtain ⟨j, hj, rfl, he, hbr⟩ := hrel
      by_cases hlt : j < n
      · obtain ⟨b, o, rfl, hbl, hc⟩ := (ha.bound.below hbr).at_ (j := j) (by rw [Hl.out]; exact hlt)
        obtain ⟨b', o', rfl, hbl', hc'⟩ := (hb.bound.below hbr).at_ (j := j) (by rw [Hm.out]; exact hlt)
        generalize hx : xs.getD j 0 = x at hc
        generalize hy : ys.getD j 0 = y at hc'
        have Hx := Lib.hid hx
        have Hy := Lib.hid hy
        have hj0 : (0 : Int) ≤ j := by omega
        have hj1 : (j : Int) < n := by omega
        clear ha hb hx hy
        by_cases hxy : x = y
        · subst hxy
          have Hnext : Hid (∀ k, k < j + 1 → xs.getD k 0 = ys.getD k 0) := fun k hk => by
            rcases Nat.lt_or_ge k j with h | h
            · exact he.out k h
            · obtain rfl : k = j := by omega
              rw [Hx.out, Hy.out]
          go_wp2_with fail
          go_quiet (fail)
          go_wp2_with fail
          go_roundw
          case rel => exact ⟨j + 1, by omega, by go_num, Hnext, below_drewN hbr _⟩
          case measure => simp [intOf]; omega
        · have hne : (x == y) = false := beq_eq_false_iff_ne.2 hxy
          have Hd : Hid (decide (xs = ys) = false) := decide_eq_false fun e => hxy (by rw [← Hx.out, ← Hy.out, e])
          go_wp2_with fail
          go_quiet (fail)
          go_wp2_with fail
          go_ret
          exact ⟨ret_bool Hd.out.symm, below_drewN hbr _⟩
      · obtain rfl : j = n := by omega
        have Hd : Hid (decide (xs = ys) = true) := decide_eq_true (by
          refine List.ext_getElem (by rw [Hl.out, Hm.out]) fun k h1 h2 => ?_
          have h := he.out k (by rw [← Hl.out]; exact h1)
          rwa [List.getD_eq_getElem?_getD, List.getElem?_eq_getElem h1, List.getD_eq_getElem?_getD, List.getElem?_eq_getElem h2] at h)
        go_wp2_with fail
        go_ret
        exact ⟨ret_bool Hd.out.symm, hbr⟩
  · have Hd : Hid (decide (xs = ys) = false) := decide_eq_false fun e => hnm (by rw [← hl, ← hm, e])
    have hne : ((n : Int) == (m : Int)) = false := beq_eq_false_iff_ne.2 (by omega)
    clear hl hm
    go_enter Try.func27, Try.ntmps27
    go_wp2_with fail
    go_ret
    exact ⟨ret_bool Hd.out.symm, Below.refl _ _⟩
end Go.Proofs.Ytklmhkckhdmelaa
