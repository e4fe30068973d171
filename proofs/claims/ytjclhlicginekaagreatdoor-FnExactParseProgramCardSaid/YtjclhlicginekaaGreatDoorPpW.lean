/- The law FnExactParseProgram (PpX, PpZ and PpY in one text: a claim holds few files). -/
import Derived.Test.YtjclhlicginekaaGreatDoorProg
import Derived.Test.YtjclhlicginekaaGreatDoorPpI
import Derived.Test.YtjclhlicginekaaGreatDoorStmtR
import Derived.Test.YtjclhlicginekaaGreatDoorPpS
import Derived.Test.YtjclhlicginekaaGreatDoorPgS
import Derived.Test.YtjclhlicginekaaGreatDoorSrcY
namespace Go.Proofs.YtjclhlicginekaaGreatDoor
open Go Go.RowKit
theorem ints_of_owned {w : World} {base n c m : Nat} {e : TypeId} {A : Option Addr} {zs : List Int} (h : w.ownsRow base e m (.slice A n c) n (intVals zs)) : Ints w A zs := fun h0 => by
  have hl : zs.length = n * m := by have := h.1; rw [intVals_length] at this; exact this
  rcases h.2 with ⟨he, h1⟩ | ⟨g, cap, cur, he, hg, hh, _⟩
  · subst h1; omega
  · injection he with he1 he2 he3
    subst he1 he3
    refine ⟨g, 0, rfl, (Array.getElem?_eq_some_iff.1 hh).1, fun j hj => ?_⟩
    rw [Nat.zero_add, h.cellAt j (by omega)]
    simp [intVals, List.getElem?_map, List.getElem?_eq_getElem hj]
set_option maxRecDepth 100000 in
set_option maxHeartbeats 1000000 in
theorem exact_parseP (s : ByteArray) (w : World) (hm : s.size ≤ 9223372036854775807) (ht : TabOk w) (he : ErrOk w) (hz : 8 ≤ w.heap.size) (R : List St × Int) (hRl : R.1.length ≤ 1000000)
    (cs : ∀ w, s.size ≤ 1048576 → Calls Tryz.prog 13 #[.string s] w (PpPost R w))
    (ci : ∀ w, s.size ≤ 1048576 → TabOk w → ErrOk w → 8 ≤ w.heap.size → Calls Tryz.prog 9 #[.string s] w (PpPost R w)) :
    Calls Tryz.prog 4 #[.string s] w fun e w' => e = .returned (.bool true) ∧ Below w.heap.size w w' := by
  by_cases h1 : 1048576 < s.size
  · have hd : decide ((1048576 : Int) < (s.size : Int)) = true := by simp; omega
    clear cs ci
    go_enter Tryz.func4, Tryz.ntmps4
    go_wp2_with fail
    go_ret
    exact ⟨rfl, Below.refl _ _⟩
  · have hd : decide ((1048576 : Int) < (s.size : Int)) = false := by simp; omega
    have h2 : s.size ≤ 1048576 := by omega
    have c1 := cs w h2
    have c2 := fun w => ci w h2
    obtain ⟨L, r⟩ := R
    unfold PpPost at c1 c2
    simp only at c1 c2 hRl
    have hrr : (r != r) = false := by simp
    clear cs ci
    go_enter Tryz.func4, Tryz.ntmps4
    go_wp2_with fail
    refine c1.mono ?_
    rintro e w1 ⟨A0, m0, k0, rfl, o0, hb1⟩
    clear c1
    go_wp2_with fail
    refine (c2 _ (ht.below hb1 hz) (he.below hb1 hz) (Nat.le_trans hz hb1.size)).mono ?_
    rintro e w2 ⟨A1, m1, k1, rfl, o1, hb2⟩
    have low2 := hb1.trans (hb2.mono hb1.size)
    have p0 := o0.below hb2
    have hl0 : L.length = m0 := (OwnS.ints o0.own).2
    have hl1 : L.length = m1 := (OwnS.ints o1.own).2
    go_wp2_with fail
    refine (eqStmtS_same m1 m0 k1 k0 A1 A0 L L w2 o1.ints p0.ints rfl hl1 hl0 (by omega)).mono ?_
    rintro e w3 ⟨rfl, hb3⟩
    have low3 := low2.trans (hb3.mono low2.size)
    have p1 := p0.below hb3
    have q1 := o1.below hb3
    go_wp2_with fail
    refine (markStmtS_own w1.heap.size m1 1 (.slice A1 m1 k1) (flat L) w3 q1.own (by omega)).mono ?_
    rintro e w4 ⟨rfl, hmk, hg4⟩
    have low4 : Below w.heap.size w w4 := low3.grown hg4 low3.size (fun k hk => by have := (World.ownsRow.lt q1.own k hk).1; have := hb1.size; omega)
    have p2 : OwnS w.heap.size w4 (.slice A0 m0 k0) m0 L := World.ownsRow.kept p1.own hg4 (by
      by_cases hx : (Value.slice A0 m0 k0).ownBlock = none
      · exact Or.inl hx
      · refine Or.inr (fun e => ?_)
        obtain ⟨k, hk⟩ : ∃ k, (Value.slice A0 m0 k0).ownBlock = some k := Option.ne_none_iff_exists'.mp hx
        have h1 := o0.top k hk
        have h2 := (World.ownsRow.lt q1.own k (e ▸ hk)).1
        omega)
    have hm1 : Ints w4 A1 (markInts 1 (m1 * 6)) := ints_of_owned hmk
    go_wp2_with fail
    refine (heldStmtS_any m1 1 k1 A1 w4 hm1 (by omega)).mono ?_
    rintro e w5 ⟨rfl, rfl⟩
    go_wp2_with fail
    refine (c2 _ (ht.below low4 hz) (he.below low4 hz) (Nat.le_trans hz low4.size)).mono ?_
    rintro e w5 ⟨A2, m2, k2, rfl, o2, hb5⟩
    have hl2 : L.length = m2 := (OwnS.ints o2.own).2
    have p3 : OwnS w.heap.size w5 (.slice A0 m0 k0) m0 L := own_below p2 hb5
    have hmk5 := own_below hmk hb5
    have low5 := low4.trans (hb5.mono low4.size)
    go_wp2_with fail
    refine (eqStmtS_same m2 m0 k2 k0 A2 A0 L L w5 o2.ints (OwnS.ints p3).1 rfl hl2 hl0 (by omega)).mono ?_
    rintro e w6 ⟨rfl, hb6⟩
    have low6 := low5.trans (hb6.mono low5.size)
    have hmk6 := own_below hmk5 hb6
    have hm6 : Ints w6 A1 (markInts 1 (m1 * 6)) := ints_of_owned hmk6
    go_wp2_with fail
    refine (heldStmtS_any m1 1 k1 A1 w6 hm6 (by omega)).mono ?_
    rintro e w7 ⟨rfl, rfl⟩
    go_wp2_with fail
    go_ret
    exact ⟨rfl, low6⟩
theorem goP_len : ∀ (ls : List (List UInt8)) (i : Nat) (ss : List St), (goP ls i ss).1.length ≤ 40 := by
  intro ls
  induction ls with
  | nil =>
    intro i ss
    unfold goP
    split
    · next h => exact h.1
    · exact Nat.zero_le _
  | cons l ls ih =>
    intro i ss
    unfold goP
    split
    · exact ih _ _
    · split
      · exact Nat.zero_le _
      · exact ih _ _
theorem parseP_len (t : List UInt8) : (parseP t).1.length ≤ 1000000 := by
  unfold parseP
  split
  · exact Nat.zero_le _
  · have := goP_len (linesL t) 0 []; omega
theorem walk_parseP (cps : ∀ (ln : ByteArray) (w : World), ln.size ≤ 1048576 → Calls Tryz.prog 28 #[.string ln] w fun e w' => e = .returned (optV (parseL ln.data.toList)) ∧ Below w.heap.size w w')
    (s : ByteArray) (w : World) (hm : s.size ≤ 9223372036854775807) (ht : TabOk w) (he : ErrOk w) (hz : 8 ≤ w.heap.size) :
    Calls Tryz.prog 4 #[.string s] w fun e w' => e = .returned (.bool true) ∧ Below w.heap.size w w' := by
  refine exact_parseP s w hm ht he hz (parseP s.data.toList) (parseP_len _) (fun w h => ?_) (fun w h ht he hz => impl_ParseProgram s w h ht he hz)
  have hsl : s.data.toList.length = s.size := by simp
  by_cases h2 : 20000 < s.size
  · have e : parseP s.data.toList = ([], -1) := by unfold parseP; rw [if_pos (by omega)]
    rw [e]
    exact spec_ParseProgram_long s w h h2
  · have e : parseP s.data.toList = goP (linesL s.data.toList) 0 [] := by unfold parseP; rw [if_neg (by omega)]
    rw [e]
    exact spec_ParseProgram_go s w (by omega) _ rfl cps (fun A n cp ss w hr hl hn => spec_ProgramOk A n cp ss w hr hl hn)
theorem FnExactParseProgram_walk (s : ByteArray) (w : World) (hm : s.size ≤ 9223372036854775807) (ht : TabOk w) (he : ErrOk w) (hz : 8 ≤ w.heap.size) :
    Calls Tryz.prog 4 #[.string s] w fun e w' => e = .returned (.bool true) ∧ Below w.heap.size w w' :=
  walk_parseP (fun ln w h => spec_ParseStmt ln h w) s w hm ht he hz
end Go.Proofs.YtjclhlicginekaaGreatDoor
