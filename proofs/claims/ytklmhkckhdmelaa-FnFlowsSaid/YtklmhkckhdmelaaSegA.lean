/- Slices of the call's own, whatever type their block was made with (an array's part is one), elements of m numbers. No condition. -/
import Derived.Test.YtklmhkckhdmelaaProg
import Derived.Test.YtklmhkckhdmelaaSeg
import Derived.Test.YtklmhkckhdmelaaBlk
namespace Go.Proofs.Ytklmhkckhdmelaa
open Go Go.RowKit
/-- A slice of elements of m numbers, of the call's own, in a block from lo on and below hi: its numbers one behind the other. -/
structure OwnA (m lo hi : Nat) (w : World) (v : Value) (n : Nat) (zs : List Int) : Prop where
  own : ∃ e, w.ownsRow lo e m v n (intVals zs)
  top : ∀ k, v.ownBlock = some k → k < hi
section
variable {w w' w1 w2 : World} {m m' lo hi lo' hi' B n k : Nat} {u v : Value} {zs ys : List Int}
theorem OwnI.any (h : OwnI lo hi w v n zs) : OwnA 1 lo hi w v n zs := ⟨⟨_, h.own⟩, h.top⟩
theorem OwnA.len (h : OwnA m lo hi w v n zs) : zs.length = n * m := by obtain ⟨e, h⟩ := h.own; have := h.1; rwa [intVals_length] at this
theorem OwnA.len1 (h : OwnA 1 lo hi w v n zs) : zs.length = n := by have := h.len; omega
theorem OwnA.form (h : OwnA m lo hi w v n zs) : ∃ (A : Option Addr) (c : Nat), v = .slice A n c := by
  obtain ⟨e, h⟩ := h.own
  obtain ⟨A, m, c, e, rfl⟩ := ownsRow_slice h
  exact ⟨A, c, e⟩
theorem OwnA.nil (m lo hi : Nat) (w : World) : OwnA m lo hi w (.slice none 0 0) 0 [] := ⟨⟨0, World.ownsRow_nil w lo _ m⟩, fun k h => by simp [Value.ownBlock] at h⟩
theorem OwnA.lt (h : OwnA m lo hi w v n zs) (hg : v.ownBlock = some B) : lo ≤ B ∧ B < w.heap.size := by obtain ⟨e, h⟩ := h.own; exact h.lt B hg
theorem OwnA.ltB (h : OwnA m lo hi w v n zs) (hg : v.ownBlock = some B) : lo ≤ B ∧ B < hi := ⟨(h.lt hg).1, h.top B hg⟩
theorem OwnA.mid (h : OwnA m lo hi w v n zs) (k : Mid lo' hi' w w1) (hd : hi ≤ lo' ∨ hi' ≤ lo) : OwnA m lo hi w1 v n zs := by
  obtain ⟨⟨e, ho⟩, ht⟩ := h
  refine ⟨⟨e, ho.1, ?_⟩, ht⟩
  rcases ho.2 with e | ⟨g, cap, cur, e, hg, hh, r⟩
  · exact .inl e
  · exact .inr ⟨g, cap, cur, e, hg, k.heap hh (by have := ht g (by rw [e]; rfl); omega), r⟩
theorem OwnA.below (h : OwnA m lo hi w v n zs) (hb : Below w.heap.size w w1) : OwnA m lo hi w1 v n zs := by obtain ⟨e, ho⟩ := h.own; exact ⟨⟨e, own_below ho hb⟩, h.top⟩
theorem OwnA.alloc (h : OwnA m lo hi w v n zs) (o : Obj) : OwnA m lo hi (w.alloc o) v n zs := h.below ((Below.refl _ _).alloc (Nat.le_refl _) _)
theorem OwnA.drew (h : OwnA m lo hi w v n zs) : OwnA m lo hi w.drew v n zs := ⟨h.own, h.top⟩
theorem OwnA.drewN (h : OwnA m lo hi w v n zs) (k : Nat) : OwnA m lo hi (w.drewN k) v n zs := ⟨h.own, h.top⟩
theorem OwnA.wide (h : OwnA m lo hi w v n zs) (h1 : lo' ≤ lo) (h2 : hi ≤ hi') : OwnA m lo' hi' w v n zs := by
  obtain ⟨e, ho⟩ := h.own
  exact ⟨⟨e, own_mono ho h1⟩, fun k e => Nat.lt_of_lt_of_le (h.top k e) h2⟩
theorem OwnA.of_own {e : TypeId} (h : w.ownsRow lo e m v n (intVals zs)) : OwnA m lo w.heap.size w v n zs := ⟨⟨e, h⟩, fun k e => (h.lt k e).2⟩
theorem OwnA.keep (h : OwnA m lo hi w v n zs) (hg : w.grownBy w1 u.ownBlock) (ha : apart v u) : OwnA m lo hi w1 v n zs := by
  obtain ⟨e, ho⟩ := h.own
  exact ⟨⟨e, ho.kept hg (by
    rcases hv : v.ownBlock with _ | k
    · exact .inl rfl
    · exact .inr (fun e => ha k hv e.symm))⟩, h.top⟩
theorem OwnA.ints {A : Option Addr} {c : Nat} (h : OwnA m lo hi w (.slice A n c) n zs) : Ints w A zs := fun h0 => by
  have hl := h.len
  obtain ⟨e, ho⟩ := h.own
  rcases ho.2 with ⟨he, h1⟩ | ⟨g, cap, cur, he, hg, hh, _⟩
  · subst h1; rw [Nat.zero_mul] at hl; omega
  · injection he with he1 he2 he3
    subst he1 he3
    refine ⟨g, 0, rfl, (Array.getElem?_eq_some_iff.1 hh).1, fun j hj => ?_⟩
    rw [Nat.zero_add, ho.cellAt j (by omega)]
    simp [intVals, List.getElem?_map, List.getElem?_eq_getElem hj]
theorem OwnA.intsB {A : Option Addr} {c : Nat} (h : OwnA m lo hi w (.slice A n c) n zs) : IntsB hi w A zs := fun h0 => by
  obtain ⟨b, o, e, hl, hc⟩ := h.ints h0
  exact ⟨b, o, e, h.top b (by rw [e]; rfl), hc⟩
/-- Slices from two ranges of blocks. -/
theorem OwnA.apart_of (h : OwnA m lo hi w v n zs) (k : OwnA m' lo' hi' w1 u B ys) (hd : hi ≤ lo') : apart v u := fun g e e' => by
  have := h.top g e
  have := (k.lt e').1
  omega
theorem OwnA.setFar {g i : Nat} (h : OwnA m lo hi w v n zs) (hg : g < lo) (u : Value) : OwnA m lo hi (w.setCell ⟨g, i, none⟩ u) v n zs := by
  obtain ⟨e, ho⟩ := h.own
  exact ⟨⟨e, ownsRow_setCell_below ho (a := ⟨g, i, none⟩) hg u⟩, h.top⟩
theorem OwnA.setFar' {g i : Nat} (h : OwnA m lo hi w v n zs) (hg : hi ≤ g) (u : Value) : OwnA m lo hi (w.setCell ⟨g, i, none⟩ u) v n zs := by
  obtain ⟨⟨e, ho⟩, ht⟩ := h
  refine ⟨⟨e, ho.1, ?_⟩, ht⟩
  rcases ho.2 with e | ⟨g', cap, cur, e, hg', hh, r⟩
  · exact .inl e
  · exact .inr ⟨g', cap, cur, e, hg', by rw [Below.heap_setCell _ _ _ _ (by have := ht g' (by rw [e]; rfl); simp; omega)]; exact hh, r⟩
theorem OwnA.far {g i : Nat} (h : OwnA m lo hi w v n zs) (hg : g < lo ∨ hi ≤ g) (u : Value) : OwnA m lo hi (w.setCell ⟨g, i, none⟩ u) v n zs := hg.elim (fun h1 => h.setFar h1 u) (fun h1 => h.setFar' h1 u)
theorem OwnA.is (h : OwnA m lo hi w v n zs) (e : zs = ys) : OwnA m lo hi w v n ys := by subst e; exact h
end
/-- Marking turns the slice's own block alone. -/
theorem markIntS_ownA (lo hi n k : Nat) (v : Value) (zs : List Int) (w : World) (h : OwnA 1 lo hi w v n zs) (hn : n + k ≤ 1000000000) :
    Calls Try.prog 30 #[v, .int .i64 (k : Int)] w fun e w' => e = .returned (.int .i64 ((k + n : Nat) : Int)) ∧ OwnA 1 lo hi w' v n (markInts k n) ∧ w.grownBy w' v.ownBlock := by
  obtain ⟨te, hown⟩ := h.own
  have htop := Lib.hid h.top
  clear h
  obtain ⟨A, m, cp, rfl, rfl⟩ := ownsRow_slice hown
  go_enter Try.func30, Try.ntmps30
  go_wp2_with fail
  go_loopw [1, 5] (fun a i wr => ∃ (j : Nat) (ys : List Value), j ≤ n ∧ a = .int .i64 ((k + j : Nat) : Int) ∧ i = .int .i64 j ∧ wr.ownsRow lo te 1 (.slice A n cp) n ys ∧ Hid (∀ i, i < j → ys[i]? = some (.int .i64 ((k + i : Nat) : Int))) ∧ w.grownBy wr (Value.slice A n cp).ownBlock) (fun _ i _ => n - (intOf i).toNat)
  case atStart => exact ⟨0, intVals zs, Nat.zero_le _, rfl, rfl, hown, fun i hi => by omega, World.grownBy.refl w _⟩
  case round =>
    obtain ⟨j, ys, hj, rfl, rfl, hown, hys, hgr⟩ := hrel
    have hyl : ys.length = n := by have := hown.1; omega
    by_cases hlt : j < n
    · obtain ⟨g, rfl, hg, hgl⟩ := own_addr hown (by omega)
      obtain ⟨u0, hu0⟩ : ∃ u, ys[j]? = some u := ⟨_, List.getElem?_eq_getElem (by omega)⟩
      have hc : wr.cell? ⟨g, j, none⟩ = some u0 := by rw [hown.cellAt j (by omega)]; exact hu0
      clear hu0
      have hf := hown.frozenAt j
      have hst := hown.stored j (.int .i64 ((k + j : Nat) : Int))
      have Hgr2 := Lib.hid (hgr.trans hst.2)
      have Hys := Lib.hid (markInts_set hyl hys.out hlt rfl)
      have Hst := Lib.hid hst.1
      have hj0 : (0 : Int) ≤ j := by omega
      have hj1 : (j : Int) < n := by omega
      clear hst hown hyl hys hgr
      go_wp2_with fail
      go_roundw
      case rel => exact ⟨j + 1, _, by omega, by go_num, by go_num, Hst.out, Hys.out, Hgr2.out⟩
      case measure => simp [intOf]; omega
    · obtain rfl : j = n := by omega
      have hm := markInts_of hyl hys.out
      subst hm
      have Hown := Lib.hid hown
      have Hgr := Lib.hid hgr
      clear hown hys hyl hgr
      go_wp2_with fail
      go_ret
      exact ⟨rfl, ⟨⟨te, Hown.out⟩, htop.out⟩, Hgr.out⟩
end Go.Proofs.Ytklmhkckhdmelaa
