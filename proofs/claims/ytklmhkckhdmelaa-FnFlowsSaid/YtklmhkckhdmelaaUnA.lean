/- append of a part of a slice to the slice itself: the part stays. No condition. -/
import Derived.Test.YtklmhkckhdmelaaProg
import Derived.Test.YtklmhkckhdmelaaPgD
import Derived.Test.YtklmhkckhdmelaaUnM
namespace Go.Proofs.Ytklmhkckhdmelaa
open Go Go.RowKit
/-- The numbers zs from the address A on; where they lie in the slice v's own block, among its first n elements. -/
def Src (size : Nat) (w : World) (v : Value) (n : Nat) (A : Option Addr) (zs : List Int) : Prop :=
  zs = [] ∨ ∃ g o, A = some ⟨g, o, none⟩ ∧ g < w.heap.size ∧ (∀ j, j < zs.length → w.cell? ⟨g, o + j, none⟩ = some (.int .i64 (zs.getD j 0))) ∧ (v.ownBlock = some g → o + zs.length ≤ n * size)
theorem Src.ints {size n : Nat} {w : World} {v : Value} {A : Option Addr} {zs : List Int} (h : Src size w v n A zs) : Ints w A zs := by
  rcases h with rfl | ⟨g, o, e, hg, hc, -⟩
  · exact fun h0 => by simp at h0
  · exact fun _ => ⟨g, o, e, hg, hc⟩
theorem row_at {w : World} {base n c size g : Nat} {e : TypeId} {xs : List Value} (h : w.ownsRow base e size (.slice (some ⟨g, 0, none⟩) n c) n xs) {j : Nat} (hj : j < n * size) : w.cell? ⟨g, j, none⟩ = xs[j]? := h.cellAt j hj
/-- append, with what becomes of such numbers. -/
theorem run_app_src {P : Program} {t e : TypeId} {size bytes : Nat} {w : World} (L : Elem P t e size bytes) (ty : TypeId) (base : Nat) (v : Value) (n : Nat) (xs : List Value) (hown : w.ownsRow base e size v n xs)
    (A : Option Addr) (m c : Nat) (zs : List Int) (hz : Src size w v n A zs) (hl : zs.length = m * size) (h63 : n + m ≤ maxLen) (hbytes : (n + m) * bytes ≤ 140737488355328) (hbase : base ≤ w.heap.size) :
    ∃ v' w', (Builtin.append_ #[t, t] ty #[v, .slice A m c]).run P w = .ok v' w' ∧ w'.ownsRow base e size v' (n + m) (xs ++ intVals zs) ∧ w.grownBy w' v.ownBlock ∧ (v'.ownBlock = v.ownBlock ∨ v'.ownBlock = some w.heap.size) ∧ Src size w' v' (n + m) A zs := by
  obtain ⟨v', w', hr, h2, h3, h4⟩ := run_app_cells (P := P) L ty base v n xs hown A m c zs hz.ints hl h63 hbytes hbase
  refine ⟨v', w', hr, h2, h3, h4, ?_⟩
  rcases hz with rfl | ⟨g, o, rfl, hg, hc, hin⟩
  · exact .inl rfl
  have hle : n * size ≤ (n + m) * size := Nat.mul_le_mul_right _ (by omega)
  by_cases hv : v.ownBlock = some g
  case neg =>
    refine .inr ⟨g, o, rfl, Nat.lt_of_lt_of_le hg h3.size, fun j hj => ?_, fun e' => ?_⟩
    · exact (World.cell?_of_block (h3.block g hg (fun e' => hv e'.symm))).trans (hc j hj)
    · rcases h4 with h | h
      · exact absurd (h ▸ e') hv
      · rw [h] at e'; injection e' with e'; omega
  have hin := hin hv
  -- the slice's own block: its first n elements stay
  have keep : ∀ j, j < n * size → w'.cell? ⟨g, j, none⟩ = w.cell? ⟨g, j, none⟩ := by
    rcases hown.2 with ⟨rfl, _⟩ | ⟨g', cap, cur, rfl, hbg, hgc, hnc, hcm, hcs, htake⟩
    · simp [Value.ownBlock] at hv
    obtain rfl : g' = g := by simpa [Value.ownBlock] using hv
    intro j hj
    have hw := row_at hown hj
    have hsame : v'.ownBlock = some g' → w'.cell? ⟨g', j, none⟩ = w.cell? ⟨g', j, none⟩ := fun e' => by
      rcases h2.2 with ⟨rfl, _⟩ | ⟨g2, cap2, cur2, rfl, _⟩
      · simp [Value.ownBlock] at e'
      obtain rfl : g2 = g' := by simpa [Value.ownBlock] using e'
      rw [row_at h2 (by omega), hw, List.getElem?_append_left (by rw [hown.1]; exact hj)]
    rcases h4 with h | h
    · exact hsame (h.trans hv)
    obtain ⟨i, z, hi, hzz, hz1, hz2, hz3⟩ := L.info
    subst hz1 hz2
    have hnews : ∀ j u, (intVals zs)[j]? = some u → w.cell? ((⟨g', o, none⟩ : Addr).add j) = some u := fun j u hu => by
      have hj : j < zs.length := by
        rcases Nat.lt_or_ge j zs.length with h | h
        · exact h
        · rw [List.getElem?_eq_none (by rw [intVals_length]; exact h)] at hu; cases hu
      have hadd : (⟨g', o, none⟩ : Addr).add j = ⟨g', o + j, none⟩ := by
        rcases Nat.eq_zero_or_pos j with h | h
        · subst h; simp [Addr.add]
        · simp [Addr.add, Nat.ne_of_gt h]
      rw [hadd, hc j hj, ← hu]
      simp [intVals, List.getD_eq_getElem?_getD, List.getElem?_eq_getElem hj]
    have hmx : n + m ≤ 9223372036854775807 := by unfold maxLen at h63; omega
    by_cases hroom : n + m ≤ cap
    · have hfit : n * i.size + (intVals zs).length ≤ cur.size := by rw [intVals_length, hl, hcs, ← Nat.add_mul]; exact Nat.mul_le_mul_right _ hroom
      have hr2 := run_append_room (P := P) w t ty e i L.ht hi g' n cap cur hgc ⟨g', o, none⟩ m c (intVals zs) (by rw [intVals_length]; exact hl) hnews (oneCell_i64 zs) hroom hfit
      rw [hr] at hr2
      injection hr2 with hr3 _
      exact hsame (by rw [hr3]; rfl)
    · have hr2 := run_append_grow (P := P) w t ty e i z L.ht hi hzz ⟨g', 0, none⟩ n cap xs hown.1 (hown.cells (g := g') rfl) ⟨g', o, none⟩ m c (intVals zs) (by rw [intVals_length]; exact hl) hnews (by omega) (by omega) (growslice_fits (by omega) hbytes)
      rw [hr] at hr2
      injection hr2 with _ hr3
      rw [hr3]
      exact World.cell?_of_block (Below.heap_alloc w.drew _ g' hg)
  refine .inr ⟨g, o, rfl, Nat.lt_of_lt_of_le hg h3.size, fun j hj => ?_, fun _ => by omega⟩
  rw [keep (o + j) (by omega)]
  exact hc j hj
/-- The same in a plain region. -/
theorem app_src {P : Program} {t e : TypeId} {size bytes : Nat} {w : World} (L : Elem P t e size bytes) {ops : Array Oper} {rest : List Oper} {o : Oper} {a : Act} {Q : Exit → Act → World → Prop} (hgd : o.guard = none) (s x : Operand)
    (ho : o.op = .call { callee := .builtin .append, args := #[s, x], argTypes := #[t, t] }) (base : Nat) (v : Value) (n : Nat) (xs : List Value) (hs : a.eval s = v) (hown : w.ownsRow base e size v n xs)
    (A : Option Addr) (m c : Nat) (zs : List Int) (hxx : a.eval x = .slice A m c) (hz : Src size w v n A zs) (hl : zs.length = m * size) (h63 : n + m ≤ maxLen) (hbytes : (n + m) * bytes ≤ 140737488355328) (hbase : base ≤ w.heap.size)
    (h : ∀ v' w', w'.ownsRow base e size v' (n + m) (xs ++ intVals zs) → w.grownBy w' v.ownBlock → (v'.ownBlock = v.ownBlock ∨ v'.ownBlock = some w.heap.size) → Src size w' v' (n + m) A zs → wpList P ops Q rest (a.put o.dst v') w') : wpList P ops Q (o :: rest) a w := by
  obtain ⟨v', w', hr, h2, h3, h4, h5⟩ := run_app_src (P := P) L o.type base v n xs hown A m c zs hz hl h63 hbytes hbase
  refine wpList_plain hgd fun _ hK => ?_
  unfold Oper.wp execOp
  simp only [ho, resolve, invoke, builtin, Sem.run_bind, Sem.run_pure, Result.andThen_ok, List.map_toArray, List.map_cons, List.map_nil, hs, hxx, hr]
  exact hK _ _ (h v' w' h2 h3 h4 h5)
/-- The last elements of a slice of the call's own. -/
theorem Src.tail {lo sl st cap : Nat} {w : World} {A : Option Addr} {ss ts : List St} (h : OwnS lo w (.slice A sl cap) sl (ss ++ ts)) (hl : ss.length = st) (A' : Option Addr) (hA : ts ≠ [] → ∀ g, A = some ⟨g, 0, none⟩ → A' = some ⟨g, st * 6, none⟩) : Src 6 w (.slice A sl cap) sl A' (flat ts) := by
  rcases ts with _ | ⟨s, ts⟩
  · exact .inl rfl
  generalize hts : s :: ts = us at *
  have hne : us ≠ [] := by rw [← hts]; simp
  have hll : ss.length + us.length = sl := by have := OwnS.len h; rw [List.length_append] at this; exact this
  have hpos : 0 < us.length := by rw [← hts]; simp
  rcases h.2 with ⟨h1, h2⟩ | ⟨g, cap', cur, h1, h2, h3, h4⟩
  · omega
  · injection h1 with h11 h12 h13
    subst h11
    refine .inr ⟨g, st * 6, hA hne g rfl, (Array.getElem?_eq_some_iff.1 h3).1, fun j hj => ?_, fun _ => by rw [flat_length]; omega⟩
    rw [flat_length] at hj
    have h5 : w.cell? ⟨g, st * 6 + j, none⟩ = _ := h.cellAt (st * 6 + j) (by omega)
    have h6 := flat_length ss
    have h7 := flat_length us
    rw [h5, flat_append]
    simp only [intVals, List.map_append]
    rw [List.getElem?_append_right (by rw [List.length_map]; omega), List.length_map, show st * 6 + j - (flat ss).length = j by omega, List.getElem?_map, List.getD_eq_getElem?_getD, List.getElem?_eq_getElem (by omega)]
    rfl
end Go.Proofs.Ytklmhkckhdmelaa
