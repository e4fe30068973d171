/- Memory in pieces: what a call made lies between two block numbers; what turns lies between two others. No condition. -/
import Derived.Test.YtklmhkckhdmelaaProg
import Derived.Test.YtklmhkckhdmelaaKit
import Derived.Test.YtklmhkckhdmelaaInts
import Derived.Test.YtklmhkckhdmelaaIntsX
import Derived.Deep.AppendSrc
namespace Go.Proofs.Ytklmhkckhdmelaa
open Go Go.RowKit
/-- Of the blocks that there were, only blocks from lo on, and below hi, may have turned. -/
structure Mid (lo hi : Nat) (w w' : World) : Prop where
  os : w'.os = w.os
  tape : w'.tape = w.tape
  output : w'.output = w.output
  size : w.heap.size ≤ w'.heap.size
  block : ∀ k, k < w.heap.size → (k < lo ∨ hi ≤ k) → w'.heap[k]? = w.heap[k]?
section
variable {w w' w1 w2 : World} {lo hi lo' hi' B : Nat}
theorem Mid.refl (lo hi : Nat) (w : World) : Mid lo hi w w := ⟨rfl, rfl, rfl, Nat.le_refl _, fun _ _ _ => rfl⟩
theorem Mid.trans (h : Mid lo hi w w1) (k : Mid lo hi w1 w2) : Mid lo hi w w2 :=
  ⟨k.os.trans h.os, k.tape.trans h.tape, k.output.trans h.output, Nat.le_trans h.size k.size, fun i hi' hd => (k.block i (Nat.lt_of_lt_of_le hi' h.size) hd).trans (h.block i hi' hd)⟩
theorem Mid.wide (h : Mid lo hi w w1) (h1 : lo' ≤ lo) (h2 : hi ≤ hi') : Mid lo' hi' w w1 := ⟨h.os, h.tape, h.output, h.size, fun k hk hd => h.block k hk (by omega)⟩
theorem Mid.of_below (h : Below w.heap.size w w1) (lo hi : Nat) : Mid lo hi w w1 := ⟨h.os, h.tape, h.output, h.size, fun k hk _ => h.block k hk⟩
theorem Mid.of_grown {row : Option Nat} (h : w.grownBy w1 row) (hr : ∀ k, row = some k → lo ≤ k ∧ k < hi) : Mid lo hi w w1 :=
  ⟨h.os, h.tape, h.output, h.size, fun k hk hd => h.block k hk fun e => by have := hr k e.symm; omega⟩
theorem Mid.low (h : Mid lo hi w w1) (hB : B ≤ lo) (hs : B ≤ w.heap.size) : Below B w w1 := ⟨h.os, h.tape, h.output, h.size, fun k hk => h.block k (by omega) (.inl (by omega))⟩
theorem Mid.below (h : Mid lo hi w1 w2) (hb : Below B w w1) (hB : B ≤ lo) (hs : B ≤ w1.heap.size) : Below B w w2 := hb.trans (h.low hB hs)
theorem Mid.drew (h : Mid lo hi w w1) : Mid lo hi w w1.drew := ⟨h.os, h.tape, h.output, h.size, h.block⟩
theorem Mid.heap (h : Mid lo hi w w1) {g : Nat} {o : Obj} (hg : w.heap[g]? = some o) (hd : g < lo ∨ hi ≤ g) : w1.heap[g]? = some o :=
  (h.block g (Array.getElem?_eq_some_iff.1 hg).1 hd).trans hg
theorem Mid.cell (h : Mid lo hi w w1) {p : Addr} {v : Value} (hp : w.cell? p = some v) (hd : p.block < lo ∨ hi ≤ p.block) : w1.cell? p = some v :=
  (World.cell?_of_block (h.block p.block (World.block_lt_of_cell? w p hp) hd)).trans hp
/-- A slice that came in: its numbers stay. -/
theorem IntsB.mid {A : Option Addr} {zs : List Int} (h : IntsB B w A zs) (m : Mid lo hi w w1) (hB : B ≤ lo) (hs : B ≤ w.heap.size) : IntsB B w1 A zs := h.below (m.low hB hs)
theorem IntsB.more {A : Option Addr} {zs : List Int} (h : IntsB B w A zs) (hB : B ≤ hi) : IntsB hi w A zs := fun h0 => by
  obtain ⟨b, o, e, hl, hc⟩ := h h0
  exact ⟨b, o, e, by omega, hc⟩
end
/-- A slice of ints of the call's own, in a block from lo on and below hi. -/
structure OwnI (lo hi : Nat) (w : World) (v : Value) (n : Nat) (zs : List Int) : Prop where
  own : w.ownsRow lo 3 1 v n (intVals zs)
  top : ∀ k, v.ownBlock = some k → k < hi
/-- Two slices in different blocks. -/
def apart (u v : Value) : Prop := ∀ k, u.ownBlock = some k → v.ownBlock ≠ some k
section
variable {w w' w1 w2 : World} {lo hi lo' hi' B n m : Nat} {u v : Value} {zs ys : List Int}
theorem OwnI.len (h : OwnI lo hi w v n zs) : zs.length = n := by have := h.own.1; rw [intVals_length] at this; omega
theorem OwnI.form (h : OwnI lo hi w v n zs) : ∃ (A : Option Addr) (c : Nat), v = .slice A n c := by
  obtain ⟨A, m, c, e, rfl⟩ := ownsRow_slice h.own
  exact ⟨A, c, e⟩
theorem OwnI.nil (lo hi : Nat) (w : World) : OwnI lo hi w (.slice none 0 0) 0 [] := ⟨World.ownsRow_nil w lo _ 1, fun k h => by simp [Value.ownBlock] at h⟩
theorem OwnI.mid (h : OwnI lo hi w v n zs) (k : Mid lo' hi' w w1) (hd : hi ≤ lo' ∨ hi' ≤ lo) : OwnI lo hi w1 v n zs := by
  refine ⟨⟨h.own.1, ?_⟩, h.top⟩
  rcases h.own.2 with e | ⟨g, cap, cur, e, hg, hh, r⟩
  · exact .inl e
  · exact .inr ⟨g, cap, cur, e, hg, k.heap hh (by have := h.top g (by rw [e]; rfl); omega), r⟩
theorem OwnI.below (h : OwnI lo hi w v n zs) (hb : Below w.heap.size w w1) : OwnI lo hi w1 v n zs := ⟨own_below h.own hb, h.top⟩
theorem OwnI.alloc (h : OwnI lo hi w v n zs) (o : Obj) : OwnI lo hi (w.alloc o) v n zs := h.below ((Below.refl _ _).alloc (Nat.le_refl _) _)
theorem OwnI.drew (h : OwnI lo hi w v n zs) : OwnI lo hi w.drew v n zs := ⟨h.own, h.top⟩
theorem OwnI.wide (h : OwnI lo hi w v n zs) (h1 : lo' ≤ lo) (h2 : hi ≤ hi') : OwnI lo' hi' w v n zs := ⟨own_mono h.own h1, fun k e => Nat.lt_of_lt_of_le (h.top k e) h2⟩
theorem OwnI.of_own (h : w.ownsRow lo 3 1 v n (intVals zs)) : OwnI lo w.heap.size w v n zs := ⟨h, fun k e => (h.lt k e).2⟩
theorem OwnI.keep (h : OwnI lo hi w v n zs) (hg : w.grownBy w1 u.ownBlock) (ha : apart v u) : OwnI lo hi w1 v n zs :=
  ⟨h.own.kept hg (by
    rcases hv : v.ownBlock with _ | k
    · exact .inl rfl
    · exact .inr (fun e => ha k hv e.symm)), h.top⟩
theorem OwnI.ints {A : Option Addr} {c : Nat} (h : OwnI lo hi w (.slice A n c) n zs) : Ints w A zs := Ints.of_own h.own
theorem OwnI.intsB {A : Option Addr} {c : Nat} (h : OwnI lo hi w (.slice A n c) n zs) : IntsB hi w A zs := fun h0 => by
  obtain ⟨b, o, e, hl, hc⟩ := h.ints h0
  exact ⟨b, o, e, h.top b (by rw [e]; rfl), hc⟩
theorem OwnI.ltB (h : OwnI lo hi w v n zs) (hg : v.ownBlock = some B) : lo ≤ B ∧ B < hi := ⟨(h.own.lt B hg).1, h.top B hg⟩
theorem apart.symm (h : apart u v) : apart v u := fun k e e' => h k e' e
theorem apart.nil (v : Value) (n c : Nat) : apart (.slice none n c) v := fun k e => by simp [Value.ownBlock] at e
/-- Slices from two ranges of blocks. -/
theorem OwnI.apart_of (h : OwnI lo hi w v n zs) (k : OwnI lo' hi' w1 u m ys) (hd : hi ≤ lo') : apart v u := fun g e e' => by
  have := h.top g e
  have := (k.own.lt g e').1
  omega
/-- What append gave is apart from what was apart from its source and was there. -/
theorem apart_app {g H cap k : Nat} (ha : apart u v) (hl : ∀ k, v.ownBlock = some k → k < H) (hat : u.ownBlock = some g ∨ g = H) : apart (.slice (some ⟨g, 0, none⟩) k cap) v := by
  intro b e e'
  have : g = b := by simpa [Value.ownBlock] using e
  subst this
  rcases hat with h | h
  · exact ha g h e'
  · have := hl g e'; omega
theorem apart_app' {v' : Value} {H : Nat} (ha : apart u v) (hl : ∀ k, v.ownBlock = some k → k < H) (hat : v'.ownBlock = u.ownBlock ∨ v'.ownBlock = some H) : apart v' v := by
  intro b e e'
  rcases hat with h | h
  · exact ha b (by rw [← h]; exact e) e'
  · have : b = H := by rw [h] at e; injection e with e; exact e.symm
    have := hl b e'
    omega
end
/-- append of a slice of ints (nil, empty or not) behind a row of the call's own. -/
theorem run_app_ints {P : Program} {t e : TypeId} {w : World} (L : Elem P t e 1 8) (ty : TypeId) (base : Nat) (v : Value) (n : Nat) (xs : List Value) (hown : w.ownsRow base e 1 v n xs)
    (A : Option Addr) (m c : Nat) (zs : List Int) (hz : Ints w A zs) (hl : zs.length = m) (h63 : n + m ≤ maxLen) (hbytes : (n + m) * 8 ≤ 140737488355328) (hbase : base ≤ w.heap.size) :
    ∃ v' w', (Builtin.append_ #[t, t] ty #[v, .slice A m c]).run P w = .ok v' w' ∧ w'.ownsRow base e 1 v' (n + m) (xs ++ intVals zs) ∧ w.grownBy w' v.ownBlock ∧ (v'.ownBlock = v.ownBlock ∨ v'.ownBlock = some w.heap.size) := by
  obtain ⟨i, z, hi, hzz, hz1, hz2, hz3⟩ := L.info
  have main : ∀ a : Addr, A = some a → (∀ j u, (intVals zs)[j]? = some u → w.cell? (a.add j) = some u) →
      ∃ v' w', (Builtin.append_ #[t, t] ty #[v, .slice A m c]).run P w = .ok v' w' ∧ w'.ownsRow base e 1 v' (n + m) (xs ++ intVals zs) ∧ w.grownBy w' v.ownBlock ∧ (v'.ownBlock = v.ownBlock ∨ v'.ownBlock = some w.heap.size) := by
    rintro a rfl hnews
    obtain ⟨v', w', hr, h2, h3, _, h5⟩ := run_append_own_at (P := P) w base t ty e i z 1 8 L.ht hi hzz hz1 hz2 hz3 (by omega) v n xs hown a m c (intVals zs) (by rw [intVals_length]; omega) hnews (oneCell_i64 zs) h63 hbytes hbase
    exact ⟨v', w', hr, h2, h3, h5⟩
  rcases Nat.eq_zero_or_pos m with h0 | hp
  · subst h0
    have hnil : zs = [] := List.eq_nil_of_length_eq_zero hl
    subst hnil
    cases A with
    | some a => exact main a rfl (by simp [intVals])
    | none =>
      refine ⟨v, w, ?_, by simpa [intVals] using hown, World.grownBy.refl w _, .inl rfl⟩
      rcases hown.2 with ⟨rfl, rfl⟩ | ⟨g, cap, cur, rfl, _, _, hnc, _⟩
      · simp [Builtin.append_, run_underlying L.ht, sizeOf, typeInfo, hi, Builtin.lenOf, Builtin.firstCells]
      · simp [Builtin.append_, run_underlying L.ht, sizeOf, typeInfo, hi, Builtin.lenOf, Builtin.firstCells, hnc, storeCells]
  · obtain ⟨b, o, hA, _, hc⟩ := hz (by omega)
    refine main ⟨b, o, none⟩ hA fun j u hu => ?_
    have hj : j < zs.length := by
      rcases Nat.lt_or_ge j zs.length with h | h
      · exact h
      · rw [List.getElem?_eq_none (by rw [intVals_length]; exact h)] at hu; cases hu
    have hadd : (⟨b, o, none⟩ : Addr).add j = ⟨b, o + j, none⟩ := by
      rcases Nat.eq_zero_or_pos j with h | h
      · subst h; simp [Addr.add]
      · simp [Addr.add, Nat.ne_of_gt h]
    rw [hadd, hc j hj, ← hu]
    simp [intVals, List.getD_eq_getElem?_getD, List.getElem?_eq_getElem hj]
/-- The same in a plain region. -/
theorem app_ints {P : Program} {t e : TypeId} {w : World} (L : Elem P t e 1 8) {ops : Array Oper} {rest : List Oper} {o : Oper} {a : Act} {Q : Exit → Act → World → Prop} (hgd : o.guard = none) (s x : Operand)
    (ho : o.op = .call { callee := .builtin .append, args := #[s, x], argTypes := #[t, t] }) (base : Nat) (v : Value) (n : Nat) (xs : List Value) (hs : a.eval s = v) (hown : w.ownsRow base e 1 v n xs)
    (A : Option Addr) (m c : Nat) (zs : List Int) (hxx : a.eval x = .slice A m c) (hz : Ints w A zs) (hl : zs.length = m) (h63 : n + m ≤ maxLen) (hbytes : (n + m) * 8 ≤ 140737488355328) (hbase : base ≤ w.heap.size)
    (h : ∀ v' w', w'.ownsRow base e 1 v' (n + m) (xs ++ intVals zs) → w.grownBy w' v.ownBlock → (v'.ownBlock = v.ownBlock ∨ v'.ownBlock = some w.heap.size) → wpList P ops Q rest (a.put o.dst v') w') : wpList P ops Q (o :: rest) a w := by
  obtain ⟨v', w', hr, h2, h3, h4⟩ := run_app_ints (P := P) L o.type base v n xs hown A m c zs hz hl h63 hbytes hbase
  refine wpList_plain hgd fun _ hK => ?_
  unfold Oper.wp execOp
  simp only [ho, resolve, invoke, builtin, Sem.run_bind, Sem.run_pure, Result.andThen_ok, List.map_toArray, List.map_cons, List.map_nil, hs, hxx, hr]
  exact hK _ _ (h v' w' h2 h3 h4)
/-- A block of cells that is known whole. -/
theorem box3 {w : World} {g : Nat} {T : TypeId} {x y z : Value} (h : w.heap[g]? = some (.cells #[x, y, z] T (0, 0))) :
    (w.cell? ⟨g, 0, none⟩ = some x ∧ w.cell? ⟨g, 1, none⟩ = some y ∧ w.cell? ⟨g, 2, none⟩ = some z) ∧ (w.frozen? ⟨g, 0, none⟩ = false ∧ w.frozen? ⟨g, 1, none⟩ = false ∧ w.frozen? ⟨g, 2, none⟩ = false) :=
  ⟨⟨by simp [World.cell?, h], by simp [World.cell?, h], by simp [World.cell?, h]⟩, ⟨by simp [World.frozen?, h], by simp [World.frozen?, h], by simp [World.frozen?, h]⟩⟩
theorem heap_below {w w' : World} {g : Nat} {o : Obj} (h : w.heap[g]? = some o) (hb : Below w.heap.size w w') : w'.heap[g]? = some o :=
  (hb.block _ (Array.getElem?_eq_some_iff.1 h).1).trans h
theorem heap_lt {w : World} {g : Nat} {o : Obj} (h : w.heap[g]? = some o) : g < w.heap.size := (Array.getElem?_eq_some_iff.1 h).1
theorem heap_alloc {w : World} {g : Nat} {o : Obj} (h : w.heap[g]? = some o) (o' : Obj) : (w.alloc o').heap[g]? = some o := (Below.heap_alloc w o' g (heap_lt h)).trans h
theorem heap_grown {w w' : World} {g : Nat} {o : Obj} {row : Option Nat} (h : w.heap[g]? = some o) (hb : w.grownBy w' row) (hr : row ≠ some g) : w'.heap[g]? = some o :=
  (hb.block g (heap_lt h) (fun e => hr e.symm)).trans h
theorem heap_far {w : World} {g : Nat} {o : Obj} (h : w.heap[g]? = some o) {p : Addr} (hp : g ≠ p.block) (u : Value) : (w.setCell p u).heap[g]? = some o := (Below.heap_setCell w p u g hp).trans h
theorem OwnI.setFar {w : World} {lo hi n g i : Nat} {v : Value} {zs : List Int} (h : OwnI lo hi w v n zs) (hg : g < lo) (u : Value) : OwnI lo hi (w.setCell ⟨g, i, none⟩ u) v n zs := ⟨ownsRow_setCell_below h.own (a := ⟨g, i, none⟩) hg u, h.top⟩
theorem OwnI.setFar' {w : World} {lo hi n g i : Nat} {v : Value} {zs : List Int} (h : OwnI lo hi w v n zs) (hg : hi ≤ g) (u : Value) : OwnI lo hi (w.setCell ⟨g, i, none⟩ u) v n zs := by
  refine ⟨⟨h.own.1, ?_⟩, h.top⟩
  rcases h.own.2 with e | ⟨g', cap, cur, e, hg', hh, r⟩
  · exact .inl e
  · exact .inr ⟨g', cap, cur, e, hg', by rw [Below.heap_setCell _ _ _ _ (by have := h.top g' (by rw [e]; rfl); simp; omega)]; exact hh, r⟩
/-- Results of a struct and a number, a bool or a slice. -/
theorem results_cell_tmp_row {P : Program} {fn : Func} {t p : Tmp} {ty : TypeId} (h : fn.results = #[.cell p ty, .tmp t]) (tmps : Array Value) (w : World) (x : Value) (g : Nat) (T : TypeId) (cs : Array Value) (fr : Nat × Nat) (d : TypeDesc)
    (hx : tmps.getD t undef = x) (hp : tmps.getD p undef = .pointer (some ⟨g, 0, none⟩)) (hg : w.heap[g]? = some (.cells cs T fr))
    (hu : P.underlying ty = some d) (hd : (match d with | .struct _ | .array _ _ => true | _ => false) = true) (hi : (P.info? ty).map (·.size) = some cs.size) :
    (results fn tmps).run P w = .ok (.tuple #[.agg cs, x]) w := by
  have hp' : tmps[p]?.getD undef = .pointer (some ⟨g, 0, none⟩) := by simpa using hp
  have hx' : tmps[t]?.getD undef = x := by simpa using hx
  simp [results, h, hp', hx', asAddr, run_loadVar_row w g T ty cs fr d hg hu hd hi]
/-- Marking turns the slice's own block alone. -/
theorem markIntS_own (lo hi n k : Nat) (v : Value) (zs : List Int) (w : World) (h : OwnI lo hi w v n zs) (hn : n + k ≤ 1000000000) :
    Calls Try.prog 30 #[v, .int .i64 (k : Int)] w fun e w' => e = .returned (.int .i64 ((k + n : Nat) : Int)) ∧ OwnI lo hi w' v n (markInts k n) ∧ w.grownBy w' v.ownBlock := by
  have hown := h.own
  have htop := Lib.hid h.top
  clear h
  obtain ⟨A, m, cp, rfl, rfl⟩ := ownsRow_slice hown
  go_enter Try.func30, Try.ntmps30
  go_wp2_with fail
  go_loopw [1, 5] (fun a i wr => ∃ (j : Nat) (ys : List Value), j ≤ n ∧ a = .int .i64 ((k + j : Nat) : Int) ∧ i = .int .i64 j ∧ wr.ownsRow lo 3 1 (.slice A n cp) n ys ∧ Hid (∀ i, i < j → ys[i]? = some (.int .i64 ((k + i : Nat) : Int))) ∧ w.grownBy wr (Value.slice A n cp).ownBlock) (fun _ i _ => n - (intOf i).toNat)
  case atStart => exact ⟨0, intVals zs, Nat.zero_le _, rfl, rfl, hown, fun i hi => by omega, World.grownBy.refl w _⟩
  case round =>
    obtain ⟨j, ys, hj, rfl, rfl, hown, hys, hgr⟩ := hrel
    have hyl : ys.length = n := by have := hown.1; omega
    by_cases hlt : j < n
    · obtain ⟨g, rfl, hg, hgl⟩ := own_addr hown (by omega)
      obtain ⟨u0, hu0⟩ : ∃ u, ys[j]? = some u := ⟨_, List.getElem?_eq_getElem (by omega)⟩
      have hc : wr.cell? ⟨g, j, none⟩ = some u0 := by rw [hown.cellAt j (by omega)]; exact hu0
      clear hu0
      have hf := hown.frozenAt j
      have hst := hown.stored j (.int .i64 ((k + j : Nat) : Int))
      have Hgr2 := Lib.hid (hgr.trans hst.2)
      have Hys := Lib.hid (markInts_set hyl hys.out hlt rfl)
      have Hst := Lib.hid hst.1
      have hj0 : (0 : Int) ≤ j := by omega
      have hj1 : (j : Int) < n := by omega
      clear hst hown hyl hys hgr
      go_wp2_with fail
      go_roundw
      case rel => exact ⟨j + 1, _, by omega, by go_num, by go_num, Hst.out, Hys.out, Hgr2.out⟩
      case measure => simp [intOf]; omega
    · obtain rfl : j = n := by omega
      have hm := markInts_of hyl hys.out
      subst hm
      have Hown := Lib.hid hown
      have Hgr := Lib.hid hgr
      clear hown hys hyl hgr
      go_wp2_with fail
      go_ret
      exact ⟨rfl, ⟨Hown.out, htop.out⟩, Hgr.out⟩
theorem toIntS_own (A : Option Addr) (n c : Nat) (zs : List Int) (w : World) (hr : Ints w A zs) (hl : zs.length = n) (hn : n ≤ 2000000) :
    Calls Try.prog 33 #[.slice A n c] w fun e w' => ∃ A', e = .returned (.slice A' n n) ∧ OwnI w.heap.size w'.heap.size w' (.slice A' n n) n zs ∧ Below w.heap.size w w' :=
  (toIntS_any A n c zs w hr hl hn).mono fun _ _ ⟨_, he, ho, hb⟩ => ⟨_, he, OwnI.of_own ho, hb⟩
/-- Two slices that read as the same numbers. -/
theorem eqIntS_same (n m c1 c2 : Nat) (A B : Option Addr) (xs ys : List Int) (w : World) (ha : Ints w A xs) (hb : Ints w B ys) (he : xs = ys) (hl : xs.length = n) (hm : ys.length = m) (hn : n ≤ 1000000000000) :
    Calls Try.prog 27 #[.slice A n c1, .slice B m c2] w fun e w' => e = .returned (.bool true) ∧ Below w.heap.size w w' := by
  subst he
  exact (eqIntS_any n c1 m c2 A B xs xs w ha hb hl hm hn).mono fun _ _ ⟨h1, h2⟩ => ⟨by rw [h1, decide_eq_true rfl], h2⟩
end Go.Proofs.Ytklmhkckhdmelaa
