/- The word of an Op, off the table; an argument's mark and field. -/
import Derived.Test.YtjclhlicginekaaGreatDoorProg
import Derived.Test.YtjclhlicginekaaGreatDoorSrcF
import Derived.Handy
namespace Go.Proofs.YtjclhlicginekaaGreatDoor
open Go Go.RowKit Go.Maps
theorem mark_any (k : Nat) (h : k ≤ 5) (w : World) :
    Calls Tryz.prog 37 #[.int .i64 (k : Int)] w fun e w' => e = .returned (.string ⟨(markL k).toArray⟩) ∧ w' = w := by
  have h2 : k = 0 ∨ k = 1 ∨ k = 2 ∨ k = 3 ∨ k = 4 ∨ k = 5 := by omega
  rcases h2 with rfl | rfl | rfl | rfl | rfl | rfl
  all_goals
    go_enter Tryz.func37, Tryz.ntmps37
    go_wp2_with fail
    go_ret
    exact ⟨rfl, rfl⟩
/-- The cell of a statement's field. -/
def fldC (k : Nat) : Nat := if k = 0 then 1 else if k = 2 then 3 else if k = 3 then 4 else if k = 5 then 5 else 2
theorem field_any (k : Nat) (h : k ≤ 5) (g : Nat) (w : World) :
    Calls Tryz.prog 39 #[.int .i64 (k : Int), .pointer (some ⟨g, 0, none⟩)] w fun e w' => e = .returned (.pointer (some ⟨g, fldC k, none⟩)) ∧ w' = w := by
  have h2 : k = 0 ∨ k = 1 ∨ k = 2 ∨ k = 3 ∨ k = 4 ∨ k = 5 := by omega
  rcases h2 with rfl | rfl | rfl | rfl | rfl | rfl
  all_goals
    go_enter Tryz.func39, Tryz.ntmps39
    go_wp2_with fail
    go_ret
    exact ⟨rfl, rfl⟩
theorem box_form (B i : Nat) : ∃ a b c, formV B i = .agg #[.int .i64 (i : Int), .slice a b c] ∧ argV B i = .slice a b c := by
  unfold formV argV
  repeat' split
  all_goals exact ⟨_, _, _, rfl, rfl⟩
/-- The step of a range over the table. -/
theorem wpList_next_forms (w : World) {ops : Array Oper} {rest : List Oper} {o : Oper} {a : Act} {Q : Exit → Act → World → Prop}
    (hg : o.guard = none) (it : Operand) (hop : o.op = Op.next it false) (B r : Nat) (left : Lit → Bool) (cnt : Nat)
    (hit : a.eval it = .pointer (some ⟨r, 0, none⟩)) (h : w.ranges Tryz.prog 9 (formR B) (B + 1) r 13 (tblD 13) left cnt)
    (hDone : (∀ kl, left kl = false) → wpList Tryz.prog ops Q rest (a.put o.dst (.tuple #[.bool false])) w)
    (hMore : ∀ (i : Nat) (x : Option Addr) (y z : Nat) (w' : World) (cnt' : Nat), 1 ≤ i → i ≤ 13 → argV B i = .slice x y z → w'.ranges Tryz.prog 9 (formR B) (B + 1) r 13 (tblD 13) (fun z => left z && !z.sameKey (.string (wordL i))) cnt' → cnt' < cnt →
      w.grownBy w' (some r) → w'.heap.size = w.heap.size → (Instr.entry (.pointer (some ⟨r, 0, none⟩))).run Tryz.prog w' = .ok (.tuple #[.string ⟨(wordL i).toArray⟩, .agg #[.int .i64 (i : Int), .slice x y z]]) w' →
      wpList Tryz.prog ops Q rest (a.put o.dst (.tuple #[.bool true, .string ⟨(wordL i).toArray⟩, .agg #[.int .i64 (i : Int), .slice x y z]])) w') :
    wpList Tryz.prog ops Q (o :: rest) a w := by
  refine wpList_next_ranges w hg it hop 9 keyS (formR B) Value.string (fun i : Nat => formV B i)
    (fun key kl hkey => by obtain ⟨s, rfl, _⟩ := Go.WideMaps.string_of_keyOf Tryz.underlying9 hkey; exact ⟨s, rfl⟩)
    (fun v y hv => by obtain ⟨op, _, rfl, _⟩ := formR_inv hv; exact ⟨op, rfl⟩)
    (B + 1) r 13 (tblD 13) left cnt hit h (fun _ hl => hDone hl) ?_
  intro s c kl y w1 cnt1 hkey hlk hv hat hrg1 hlt hg1 hs1 hen
  obtain ⟨s', e1, rfl, _⟩ := Go.WideMaps.string_of_keyOf Tryz.underlying9 hkey
  injection e1 with e1
  subst e1
  obtain ⟨i, h1, h2, hi⟩ := tbl_key (has_true_of_atKey hat) rfl
  have hs : s = ⟨(wordL i).toArray⟩ := by apply WideShapes.bytes_inj; simp [hi]
  obtain ⟨c', _, ec, rfl⟩ := formR_inv hv
  have e2 := hat (.lit (.int .i64 0))
  rw [hi, (tbl_word 13 (by omega) i h1 h2).2] at e2
  have ec2 := formV_inj ec
  subst ec2
  simp only [DataW.lit.injEq, Lit.int.injEq] at e2
  obtain rfl : c = i := by omega
  obtain ⟨x, y, z, ef, ea⟩ := box_form B c
  rw [hi] at hrg1
  rw [hs, ef] at hen ⊢
  exact hMore c x y z w1 cnt1 h1 h2 ea hrg1 hlt hg1 hs1 hen
set_option maxRecDepth 100000 in
set_option maxHeartbeats 1000000 in
theorem wordOf_any (B op : Nat) (h1 : 1 ≤ op) (h2 : op ≤ 13) (w : World) (hf : Forms B w) :
    Calls Tryz.prog 36 #[.map (some (B + 1)), .int .i64 (op : Int)] w fun e w' => e = .returned (.string ⟨(wordL op).toArray⟩) ∧ Below w.heap.size w w' := by
  have htop := hf.top
  have hstart : Maps.has (tblD 13) (.string (wordL op)) = true := (tbl_word 13 (by omega) op h1 h2).1
  go_enter Tryz.func36, Tryz.ntmps36
  go_wp2_with (first | (at_range; refine wpList_range_own _ rfl _ 45 rfl 9 77 keyS Tryz.underlying45 (formR B) (B + 1) 13 (tblD 13) rfl hf.map ?_; intro w0 hrg0 hg0 hs0))
  go_frame
  have hb0 : Below w.heap.size w w0 := (Below.refl _ _).grown hg0 (Nat.le_refl _) (fun k hk => by cases hk)
  go_loopw [5] (fun _ wr => ∃ left cnt, wr.ranges Tryz.prog 9 (formR B) (B + 1) w.heap.size 13 (tblD 13) left cnt ∧ left (.string (wordL op)) = true ∧ Below w.heap.size w wr) (fun _ wr => wr.rangeLeft (B + 1) w.heap.size)
  case atStart => exact ⟨_, _, hrg0, hstart, hb0⟩
  case round =>
    obtain ⟨left, cnt, hrg, hlf, hb⟩ := hrel
    have hsz := hb.size
    go_wp2_with (first | (at_next; refine wpList_next_forms _ rfl _ rfl B w.heap.size left cnt rfl hrg ?_ ?_))
    · intro hl0
      rw [hl0] at hlf
      cases hlf
    · intro i x y z w1 cnt1 i1 i2 ha hrg1 hlt hg1 hs1 hen
      have hb1 : Below w.heap.size w w1 := hb.grown hg1 hsz (fun k hk => by cases hk; exact Nat.le_refl _)
      by_cases he : i = op
      · subst he
        go_wp2_with fail
        go_ret
        exact ⟨rfl, hb1.alloc (by omega) _⟩
      · have hw : Lit.sameKey (.string (wordL op)) (.string (wordL i)) = false := sameKey_ne fun e => by injection e with e; exact he (word_inj op i h1 h2 i1 i2 e).symm
        have hl1 : (left (.string (wordL op)) && !(Lit.string (wordL op)).sameKey (.string (wordL i))) = true := by rw [hlf, hw]; rfl
        have Hl1 := Lib.hid hl1
        have he2 : ((i : Int) == (op : Int)) = false := by simp; omega
        clear hl1 hw
        go_wp2_with fail
        go_roundw
        case rel => exact ⟨_, cnt1, hrg1.alloc _, Hl1.out, hb1.alloc (by omega) _⟩
        case measure => rw [(hrg1.alloc _).left_eq, hrg.left_eq]; omega
end Go.Proofs.YtjclhlicginekaaGreatDoor
