/- Slices of slices of ints: reading, counting (laws.szIntSS), copying (laws.toIntSS), comparing (laws.eqIntSS), marking (laws.markIntSS). No condition. -/
import Derived.Test.YtjfmcdfgccdmpaaGreatProg
import Derived.Test.YtjfmcdfgccdmpaaGreatB1
import Derived.Deep.Matrix
namespace Go.Proofs.YtjfmcdfgccdmpaaGreat
open Go Go.RowKit
/-- How many numbers there are in all. -/
def tot (rs : List (List Int)) : Nat := match rs with
  | [] => 0
  | r :: rs => r.length + tot rs
theorem tot_drop {rs : List (List Int)} {k : Nat} (hk : k < rs.length) : tot (rs.drop k) = (rs.getD k []).length + tot (rs.drop (k + 1)) := by
  rw [List.drop_eq_getElem_cons hk, List.getD_eq_getElem?_getD, List.getElem?_eq_getElem hk]
  rfl
theorem tot_end (rs : List (List Int)) : tot (rs.drop rs.length) = 0 := by rw [List.drop_length]; rfl
theorem tot_at {rs : List (List Int)} {k : Nat} (hk : k < rs.length) : (rs.getD k []).length ≤ tot rs := by
  induction rs generalizing k with
  | nil => simp at hk
  | cons r rs ih =>
    cases k with
    | zero => simp [tot]
    | succ k =>
      have := ih (k := k) (by simpa using hk)
      simp only [tot, List.getD_cons_succ]
      omega
/-- A slice reads as these rows; all of it lies below block B. -/
def Rows (B : Nat) (w : World) (A : Option Addr) (rs : List (List Int)) : Prop :=
  0 < rs.length → ∃ b o, A = some ⟨b, o, none⟩ ∧ b < B ∧ ∀ j, j < rs.length → ∃ (Aj : Option Addr) (c : Nat), w.cell? ⟨b, o + j, none⟩ = some (.slice Aj (rs.getD j []).length c) ∧ IntsB B w Aj (rs.getD j [])
section
variable {B B' : Nat} {w w' : World} {A : Option Addr} {rs : List (List Int)} {j : Nat}
theorem Rows.nil (B : Nat) (w : World) (A : Option Addr) : Rows B w A [] := fun h => absurd h (by simp)
theorem Rows.below (h : Rows B w A rs) (hb : Below B w w') : Rows B w' A rs := fun h0 => by
  obtain ⟨b, o, e, hl, hc⟩ := h h0
  refine ⟨b, o, e, hl, fun j hj => ?_⟩
  obtain ⟨Aj, c, h1, h2⟩ := hc j hj
  exact ⟨Aj, c, (hb.cell (p := ⟨b, o + j, none⟩) hl).trans h1, h2.below hb⟩
theorem Rows.more (h : Rows B w A rs) (hB : B ≤ B') : Rows B' w A rs := fun h0 => by
  obtain ⟨b, o, e, hl, hc⟩ := h h0
  refine ⟨b, o, e, by omega, fun j hj => ?_⟩
  obtain ⟨Aj, c, h1, h2⟩ := hc j hj
  exact ⟨Aj, c, h1, h2.more hB⟩
theorem Rows.up (h : Rows B w A rs) (hb : Below B w w') (hs : B ≤ w'.heap.size) : Rows w'.heap.size w' A rs := (h.below hb).more hs
theorem Rows.next (h : Rows w.heap.size w A rs) (hb : Below w.heap.size w w') : Rows w'.heap.size w' A rs := h.up hb hb.size
theorem Rows.drew (h : Rows B w A rs) : Rows B w.drew A rs := h
theorem Rows.drewN (h : Rows B w A rs) (k : Nat) : Rows B (w.drewN k) A rs := h
theorem Rows.at_ (h : Rows B w A rs) (hj : j < rs.length) : ∃ b o Aj c, A = some ⟨b, o, none⟩ ∧ b < B ∧ w.cell? ⟨b, o + j, none⟩ = some (.slice Aj (rs.getD j []).length c) ∧ IntsB B w Aj (rs.getD j []) := by
  obtain ⟨b, o, e, hl, hc⟩ := h (by omega)
  obtain ⟨Aj, c, h1, h2⟩ := hc j hj
  exact ⟨b, o, Aj, c, e, hl, h1, h2⟩
theorem Rows.mid {lo hi : Nat} (h : Rows B w A rs) (m : Mid lo hi w w') (hB : B ≤ lo) (hs : B ≤ w.heap.size) : Rows B w' A rs := h.below (m.low hB hs)
end
/-- A slice of slices of ints of the call's own: the outer one at v with the elements us, each row in a block of its own, all from block lo on and below hi. -/
structure OwnSS (lo hi : Nat) (w : World) (v : Value) (n : Nat) (us : List Value) (rs : List (List Int)) : Prop where
  own : ∃ e, w.ownsRow lo e 1 v n us
  top : ∀ k, v.ownBlock = some k → k < hi
  len : rs.length = n
  row : ∀ j, j < n → OwnA 1 lo hi w (us.getD j undef) (rs.getD j []).length (rs.getD j [])
  out : ∀ j, j < n → apart v (us.getD j undef)
  ap : ∀ i j, i < j → j < n → apart (us.getD i undef) (us.getD j undef)
section
variable {w w' w1 w2 : World} {lo hi lo' hi' B n k : Nat} {u v : Value} {us : List Value} {rs : List (List Int)}
theorem OwnSS.form (h : OwnSS lo hi w v n us rs) : ∃ (A : Option Addr) (c : Nat), v = .slice A n c := by
  obtain ⟨e, h⟩ := h.own
  obtain ⟨A, m, c, e, rfl⟩ := ownsRow_slice h
  exact ⟨A, c, e⟩
theorem OwnSS.ulen (h : OwnSS lo hi w v n us rs) : us.length = n := by obtain ⟨e, h⟩ := h.own; have := h.1; omega
theorem OwnSS.mid (h : OwnSS lo hi w v n us rs) (k : Mid lo' hi' w w1) (hd : hi ≤ lo' ∨ hi' ≤ lo) : OwnSS lo hi w1 v n us rs := by
  obtain ⟨⟨e, ho⟩, ht, hl, hr, hou, hap⟩ := h
  refine ⟨⟨e, ho.1, ?_⟩, ht, hl, fun j hj => (hr j hj).mid k hd, hou, hap⟩
  rcases ho.2 with e | ⟨g, cap, cur, e, hg, hh, r⟩
  · exact .inl e
  · exact .inr ⟨g, cap, cur, e, hg, k.heap hh (by have := ht g (by rw [e]; rfl); omega), r⟩
theorem OwnSS.below (h : OwnSS lo hi w v n us rs) (hb : Below w.heap.size w w1) : OwnSS lo hi w1 v n us rs := by
  obtain ⟨⟨e, ho⟩, ht, hl, hr, hou, hap⟩ := h
  exact ⟨⟨e, own_below ho hb⟩, ht, hl, fun j hj => (hr j hj).below hb, hou, hap⟩
theorem OwnSS.drew (h : OwnSS lo hi w v n us rs) : OwnSS lo hi w.drew v n us rs := ⟨h.own, h.top, h.len, fun j hj => (h.row j hj).drew, h.out, h.ap⟩
theorem OwnSS.wide (h : OwnSS lo hi w v n us rs) (h1 : lo' ≤ lo) (h2 : hi ≤ hi') : OwnSS lo' hi' w v n us rs := by
  obtain ⟨⟨e, ho⟩, ht, hl, hr, hou, hap⟩ := h
  exact ⟨⟨e, own_mono ho h1⟩, fun k e => Nat.lt_of_lt_of_le (ht k e) h2, hl, fun j hj => (hr j hj).wide h1 h2, hou, hap⟩
theorem OwnSS.setFar {g i : Nat} (h : OwnSS lo hi w v n us rs) (hg : g < lo) (u : Value) : OwnSS lo hi (w.setCell ⟨g, i, none⟩ u) v n us rs := by
  obtain ⟨⟨e, ho⟩, ht, hl, hr, hou, hap⟩ := h
  exact ⟨⟨e, ownsRow_setCell_below ho (a := ⟨g, i, none⟩) hg u⟩, ht, hl, fun j hj => (hr j hj).setFar hg u, hou, hap⟩
theorem OwnSS.rows {A : Option Addr} {c : Nat} (h : OwnSS lo hi w (.slice A n c) n us rs) : Rows hi w A rs := fun h0 => by
  have hl := h.len
  have hul := h.ulen
  obtain ⟨e, ho⟩ := h.own
  rcases ho.2 with ⟨he, h1⟩ | ⟨g, cap, cur, he, hg, hh, _⟩
  · omega
  · injection he with he1 he2 he3
    subst he1 he3
    refine ⟨g, 0, rfl, h.top g rfl, fun j hj => ?_⟩
    have hr := h.row j (by omega)
    obtain ⟨Aj, cj, e1⟩ := hr.form
    rw [e1] at hr
    refine ⟨Aj, cj, ?_, hr.intsB⟩
    rw [Nat.zero_add, ho.cellAt j (by omega), ← e1, List.getD_eq_getElem?_getD, List.getElem?_eq_getElem (by omega)]
    rfl
end
section
variable {W w w' w1 : World} {A : Option Addr} {rs : List (List Int)} {B lo hi n : Nat} {v : Value} {us : List Value}
theorem Rows.ints (h : Rows B w A rs) (hB : B ≤ w.heap.size) : Rows w.heap.size w A rs := h.more hB
theorem Rows.al (h : Rows w.heap.size w A rs) (o : Obj) : Rows (w.alloc o).heap.size (w.alloc o) A rs := h.next (below_alloc w o)
theorem rows_on (h : Rows w1.heap.size W A rs) (low : Below w1.heap.size w1 W) (hL : Below W.heap.size W w) : Rows w.heap.size w A rs := (h.below (hL.mono low.size)).more (Nat.le_trans low.size hL.size)
theorem rows_drew (h : Rows w1.heap.size W A rs) (low : Below w1.heap.size w1 W) : Rows W.drew.heap.size W.drew A rs := h.more low.size
theorem rows_to (h : Rows W.heap.size W A rs) (hL : Below W.heap.size W w) : Rows w.heap.size w A rs := h.next hL
theorem OwnSS.alloc (h : OwnSS lo hi w v n us rs) (o : Obj) : OwnSS lo hi (w.alloc o) v n us rs := h.below (below_alloc w o)
theorem OwnSS.ints {c : Nat} (h : OwnSS lo hi w (.slice A n c) n us rs) : Rows w.heap.size w A rs := fun h0 => by
  have hl := h.len
  obtain ⟨e, ho⟩ := h.own
  obtain ⟨g, e1, _, hg⟩ := own_addr ho (by omega)
  obtain ⟨b, o, e2, hb, hc⟩ := h.rows h0
  refine ⟨b, o, e2, by rw [e1] at e2; injection e2 with e2; injection e2 with e3 e4; omega, fun j hj => ?_⟩
  obtain ⟨Aj, cj, h1, _⟩ := hc j hj
  have hr := h.row j (by omega)
  obtain ⟨Aj', cj', e5⟩ := hr.form
  refine ⟨Aj, cj, h1, ?_⟩
  have hul := h.ulen
  have hcell : w.cell? ⟨b, o + j, none⟩ = some (us.getD j undef) := by
    rw [e1] at e2
    injection e2 with e2; injection e2 with e3 e4
    subst e3 e4 e1
    rw [Nat.zero_add, ho.cellAt j (by omega), List.getD_eq_getElem?_getD, List.getElem?_eq_getElem (by omega)]; rfl
  rw [hcell, e5] at h1
  injection h1 with h1
  injection h1 with h1 h2 h3
  subst h1 h3
  rw [e5] at hr
  exact hr.ints.bound
end
theorem szRes_sub {z m t : Nat} (h : m ≤ z) : szRes z (m + t) = szRes (z - m) t := by
  unfold szRes
  by_cases h2 : t ≤ z - m
  · rw [if_pos h2, if_pos (by omega)]; omega
  · rw [if_neg h2, if_neg (by omega)]
open Go.ChangeShapes Go.WideShapes in
/-- What an argument's reading says. -/
theorem rows_arg {H : Type} {enc : TypeId × Value → H} {P : Program} {w : World} {base : Nat} {held : Bool} {t e q : TypeId} {A : Option Addr} {len cap : Nat} {d : DataW H} {p : List MemPlace} (ht : P.underlying t = some (.slice e)) (he : P.underlying e = some (.slice q)) (hq : P.underlying q = some (.int .i64)) (ce : P.cellsOf e = 1) (cq : P.cellsOf q = 1)
    (h : DataW.Trod enc P w base (fun _ => true) held t (.slice A len cap) d p) :
    ∃ rs : List (List Int), Rows w.heap.size w A rs ∧ rs.length = len ∧ len ≤ 9223372036854775807 ∧ ∀ r ∈ rs, r.length ≤ 9223372036854775807 := by
  obtain ⟨fuel, hf⟩ := h
  rcases Go.Deep.open_int_rows ht he hq ce cq hf with ⟨hcs, _⟩ | ⟨a, l, c, As, L, C, Z, hcs, hb, hlc, hm, hx, hr⟩
  · simp [Value.cells] at hcs
    obtain ⟨rfl, rfl, rfl⟩ := hcs
    exact ⟨[], Rows.nil _ _ _, rfl, by omega, fun r h => by simp at h⟩
  · simp [Value.cells] at hcs
    obtain ⟨rfl, rfl, rfl⟩ := hcs
    have gd : ∀ j, j < len → ((List.range len).map fun r => (Z r).take (L r)).getD j [] = (Z j).take (L j) := fun j hj => by
      simp [List.getD_eq_getElem?_getD, hj]
    have hlen : ∀ j, j < len → ((Z j).take (L j)).length = L j := fun j hj => by
      obtain ⟨_, h1, _, h2, _⟩ := hr j (by omega)
      rw [List.length_take]; omega
    refine ⟨(List.range len).map fun r => (Z r).take (L r), fun h0 => ?_, by simp, by unfold maxLen at hm; omega, fun r h => ?_⟩
    · have h0' : 0 < len := by simpa using h0
      obtain ⟨b, o, spot⟩ := a
      have c00 := (hr 0 (by omega)).1
      have hs : spot = none := by simpa [Addr.add] using World.cell?_spot c00
      subst hs
      refine ⟨b, o, rfl, by have := World.block_lt_of_cell? w _ c00; simpa [Addr.add] using this, fun j hj => ?_⟩
      have hj' : j < len := by simpa using hj
      obtain ⟨h1, h2, h3, h4, _, h5, h6⟩ := hr j (by omega)
      rw [gd j hj', hlen j hj']
      refine ⟨As j, C j, ?_, fun hz => ?_⟩
      · rw [← h1]
        rcases Nat.eq_zero_or_pos j with h | h
        · subst h; simp [Addr.add]
        · simp [Addr.add, Nat.ne_of_gt h]
      · rw [hlen j hj'] at hz
        cases hA : As j with
        | none => have := h5 hA; omega
        | some a' =>
          have hcell := (h6 a' hA).2
          have hi := Ints.of_row h2 h4 (x := a') (w := w) (zs := Z j) (by rw [h4]; exact hcell)
          exact hi.1.bound (by rw [hi.2]; exact hz)
    · obtain ⟨j, hj, rfl⟩ := List.mem_map.1 h
      have hj' : j < len := List.mem_range.1 hj
      have := hr j (by omega)
      rw [hlen j hj']
      have h3 := this.2.2.1
      unfold maxLen at h3
      omega
end Go.Proofs.YtjfmcdfgccdmpaaGreat
