/- The draws of programs: a block with loops inside, a program. No condition. -/
import Derived.Test.YtklmhkckhdmelaaProg
import Derived.Test.YtklmhkckhdmelaaStD
import Derived.Test.YtklmhkckhdmelaaPgB
namespace Go.Proofs.Ytklmhkckhdmelaa
open Go Go.RowKit
/-- append of a slice of ints in cells (nil, empty or not) behind a row of the call's own, elements of any size. -/
theorem run_app_cells {P : Program} {t e : TypeId} {size bytes : Nat} {w : World} (L : Elem P t e size bytes) (ty : TypeId) (base : Nat) (v : Value) (n : Nat) (xs : List Value) (hown : w.ownsRow base e size v n xs)
    (A : Option Addr) (m c : Nat) (zs : List Int) (hz : Ints w A zs) (hl : zs.length = m * size) (h63 : n + m ≤ maxLen) (hbytes : (n + m) * bytes ≤ 140737488355328) (hbase : base ≤ w.heap.size) :
    ∃ v' w', (Builtin.append_ #[t, t] ty #[v, .slice A m c]).run P w = .ok v' w' ∧ w'.ownsRow base e size v' (n + m) (xs ++ intVals zs) ∧ w.grownBy w' v.ownBlock ∧ (v'.ownBlock = v.ownBlock ∨ v'.ownBlock = some w.heap.size) := by
  obtain ⟨i, z, hi, hzz, hz1, hz2, hz3⟩ := L.info
  have main : ∀ a : Addr, A = some a → (∀ j u, (intVals zs)[j]? = some u → w.cell? (a.add j) = some u) →
      ∃ v' w', (Builtin.append_ #[t, t] ty #[v, .slice A m c]).run P w = .ok v' w' ∧ w'.ownsRow base e size v' (n + m) (xs ++ intVals zs) ∧ w.grownBy w' v.ownBlock ∧ (v'.ownBlock = v.ownBlock ∨ v'.ownBlock = some w.heap.size) := by
    rintro a rfl hnews
    obtain ⟨v', w', hr, h2, h3, _, h5⟩ := run_append_own_at (P := P) w base t ty e i z size bytes L.ht hi hzz hz1 hz2 hz3 L.pos v n xs hown a m c (intVals zs) (by rw [intVals_length]; omega) hnews (oneCell_i64 zs) h63 hbytes hbase
    exact ⟨v', w', hr, h2, h3, h5⟩
  rcases Nat.eq_zero_or_pos m with h0 | hp
  · subst h0
    have hnil : zs = [] := List.eq_nil_of_length_eq_zero (by omega)
    subst hnil
    cases A with
    | some a => exact main a rfl (by simp [intVals])
    | none =>
      refine ⟨v, w, ?_, by simpa [intVals] using hown, World.grownBy.refl w _, .inl rfl⟩
      rcases hown.2 with ⟨rfl, rfl⟩ | ⟨g, cap, cur, rfl, _, _, hnc, _⟩
      · simp [Builtin.append_, run_underlying L.ht, sizeOf, typeInfo, hi, Builtin.lenOf, Builtin.firstCells]
      · simp [Builtin.append_, run_underlying L.ht, sizeOf, typeInfo, hi, Builtin.lenOf, Builtin.firstCells, hnc, storeCells]
  · have hpz : 0 < zs.length := by rw [hl]; exact Nat.mul_pos hp L.pos
    obtain ⟨b, o, hA, _, hc⟩ := hz hpz
    refine main ⟨b, o, none⟩ hA fun j u hu => ?_
    have hj : j < zs.length := by
      rcases Nat.lt_or_ge j zs.length with h | h
      · exact h
      · rw [List.getElem?_eq_none (by rw [intVals_length]; exact h)] at hu; cases hu
    have hadd : (⟨b, o, none⟩ : Addr).add j = ⟨b, o + j, none⟩ := by
      rcases Nat.eq_zero_or_pos j with h | h
      · subst h; simp [Addr.add]
      · simp [Addr.add, Nat.ne_of_gt h]
    rw [hadd, hc j hj, ← hu]
    simp [intVals, List.getD_eq_getElem?_getD, List.getElem?_eq_getElem hj]
/-- The same in a plain region. -/
theorem app_cells {P : Program} {t e : TypeId} {size bytes : Nat} {w : World} (L : Elem P t e size bytes) {ops : Array Oper} {rest : List Oper} {o : Oper} {a : Act} {Q : Exit → Act → World → Prop} (hgd : o.guard = none) (s x : Operand)
    (ho : o.op = .call { callee := .builtin .append, args := #[s, x], argTypes := #[t, t] }) (base : Nat) (v : Value) (n : Nat) (xs : List Value) (hs : a.eval s = v) (hown : w.ownsRow base e size v n xs)
    (A : Option Addr) (m c : Nat) (zs : List Int) (hxx : a.eval x = .slice A m c) (hz : Ints w A zs) (hl : zs.length = m * size) (h63 : n + m ≤ maxLen) (hbytes : (n + m) * bytes ≤ 140737488355328) (hbase : base ≤ w.heap.size)
    (h : ∀ v' w', w'.ownsRow base e size v' (n + m) (xs ++ intVals zs) → w.grownBy w' v.ownBlock → (v'.ownBlock = v.ownBlock ∨ v'.ownBlock = some w.heap.size) → wpList P ops Q rest (a.put o.dst v') w') : wpList P ops Q (o :: rest) a w := by
  obtain ⟨v', w', hr, h2, h3, h4⟩ := run_app_cells (P := P) L o.type base v n xs hown A m c zs hz hl h63 hbytes hbase
  refine wpList_plain hgd fun _ hK => ?_
  unfold Oper.wp execOp
  simp only [ho, resolve, invoke, builtin, Sem.run_bind, Sem.run_pure, Result.andThen_ok, List.map_toArray, List.map_cons, List.map_nil, hs, hxx, hr]
  exact hK _ _ (h v' w' h2 h3 h4)
theorem OwnS.app {base n m : Nat} {w : World} {v : Value} {ss ts : List St} (h : w.ownsRow base 43 6 v (n + m) (intVals (flat ss) ++ intVals (flat ts))) : OwnS base w v (n + m) (ss ++ ts) := by
  unfold OwnS
  rw [flat_append]
  simpa [intVals] using h
theorem OwnS.one {base n : Nat} {w : World} {v : Value} {ss : List St} {op d a b c m : Int} (h : w.ownsRow base 43 6 v (n + 1) (intVals (flat ss) ++ (#[Value.int .i64 op, .int .i64 d, .int .i64 a, .int .i64 b, .int .i64 c, .int .i64 m] : Array Value).toList)) : OwnS base w v (n + 1) (ss ++ [⟨op, d, a, b, c, m⟩]) :=
  OwnS.app (ts := [⟨op, d, a, b, c, m⟩]) h
theorem OwnS.len {base n : Nat} {w : World} {v : Value} {ss : List St} (h : OwnS base w v n ss) : ss.length = n := by have := h.1; rw [intVals_length, flat_length] at this; omega
/-- A list of statements that was drawn. -/
def DrawnSS (T : TypeId) (B g : Nat) (P : List St → Prop) (w : World) (e : Ending) (w' : World) : Prop :=
  ∃ (A : Option Addr) (m c : Nat) (ss : List St), e = .returned (.slice A m c) ∧ ss.length = m ∧ P ss ∧ OwnS w.heap.size w' (.slice A m c) m ss ∧ RunD T B g w w'
/-- What the rounds of a block have laid so far. -/
structure Rnd (h M k : Nat) (ss : List St) : Prop where
  blk : Blk8 h ss
  l1 : ss.length ≤ M * k
  l2 : ss.length ≤ k + 18
theorem Rnd.nil (h M : Nat) : Rnd h M 0 [] := ⟨Blk8.nil h, by simp, by simp⟩
theorem Rnd.one {h M k : Nat} {ss : List St} {s : St} (r : Rnd h M k ss) (hs : plainSt s) (hM : 1 ≤ M) : Rnd h M (k + 1) (ss ++ [s]) := by
  obtain ⟨ho, hl, hd, ha, hb, hc⟩ := hs
  refine ⟨r.blk.app ⟨Bal.one ho hl, smallAll.one ⟨ho, hd, ha, hb, hc, fun e => by omega⟩⟩, ?_, ?_⟩
  · have := r.l1
    rw [Nat.mul_succ, List.length_append]
    simp only [List.length_cons, List.length_nil]
    omega
  · have := r.l2
    rw [List.length_append]
    simp only [List.length_cons, List.length_nil]
    omega
theorem Rnd.loop {h M k : Nat} {ss ts : List St} {n : Int} (r : Rnd (h + 1) M k ss) (hs : Blk8 h ts) (hn : 0 ≤ n ∧ n < 3) (hl : ss.length < 12) (hM : ts.length + 2 ≤ M) (hM2 : M ≤ 10) :
    Rnd (h + 1) M (k + 1) (((ss ++ [loopSt (1 + n)]) ++ ts) ++ [endSt]) := by
  refine ⟨r.blk.loop hs hn, ?_, ?_⟩
  · have := r.l1
    rw [Nat.mul_succ]
    simp only [List.length_append, List.length_cons, List.length_nil]
    omega
  · have h1 := r.l1
    have h2 := r.l2
    simp only [List.length_append, List.length_cons, List.length_nil]
    have hk : k = 0 ∨ k = 1 ∨ 2 ≤ k := by omega
    rcases hk with rfl | rfl | hk <;> omega
end Go.Proofs.Ytklmhkckhdmelaa
