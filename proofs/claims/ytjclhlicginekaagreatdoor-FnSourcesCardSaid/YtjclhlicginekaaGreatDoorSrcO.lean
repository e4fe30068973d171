/- The program's FormatProgram. -/
import Derived.Test.YtjclhlicginekaaGreatDoorProg
import Derived.Test.YtjclhlicginekaaGreatDoorSrcJ
import Derived.Test.YtjclhlicginekaaGreatDoorStmtA
import Derived.Test.YtjclhlicginekaaGreatDoorPg8
import Derived.Test.YtjclhlicginekaaGreatDoorBld
import Derived.Test.YtjclhlicginekaaGreatDoorShelf
import Derived.Test.YtjclhlicginekaaGreatDoorApp
namespace Go.Proofs.YtjclhlicginekaaGreatDoor
open Go Go.RowKit
/-- The text of a program. -/
def progL (ss : List St) : List UInt8 := ss.flatMap fun s => fmtL s ++ [10]
theorem progL_snoc (ss : List St) (k : Nat) (h : k < ss.length) : progL (ss.take (k + 1)) = progL (ss.take k) ++ (fmtL (ss.getD k s0) ++ [10]) := by
  unfold progL
  rw [List.take_succ_eq_append_getElem h, List.flatMap_append, List.getD_eq_getElem?_getD, List.getElem?_eq_getElem h]
  simp
theorem progL_len {ss : List St} (h : ∀ k, k < ss.length → (ss.getD k s0).ok) : ∀ k, k ≤ ss.length → (progL (ss.take k)).length ≤ 22 * k := by
  intro k
  induction k with
  | zero => intro _; simp [progL]
  | succ k ih =>
    intro hk
    rw [progL_snoc ss k (by omega), List.length_append, List.length_append]
    have := ih (by omega)
    have := (fmt_len (h k (by omega))).1
    simp only [List.length_cons, List.length_nil]
    omega
theorem Bld.below {B b : Nat} {l : List UInt8} {w w' : World} (h : Bld B b l w) (hb : Below w.heap.size w w') : Bld B b l w' := by
  have main : ∀ p, Lib.BuilderAt 49 5 B b p (byteVals l) w → Lib.BuilderAt 49 5 B b p (byteVals l) w' := by
    rintro p ⟨hB, v, hk, hown, hne⟩
    exact ⟨hB, v, heap_below hk hb, own_below hown hb, hne⟩
  rcases h with h | h
  · exact .inl (main _ h)
  · exact .inr (main _ h)
theorem Bld.new (w : World) : Bld w.heap.size w.heap.size [] (w.alloc (.cells #[.pointer none, .slice none 0 0] 49)) :=
  .inl ⟨Nat.le_refl _, .slice none 0 0, heap_alloc_new w _, World.ownsRow_nil _ _ _ _, by simp [Value.ownBlock]⟩
set_option maxRecDepth 100000 in
theorem impl_FormatProgram_no (A : Option Addr) (n cp : Nat) (ss : List St) (w : World) (hr : Ints w A (flat ss)) (hl : ss.length = n) (hn : n ≤ 2000000) (hp : ¬ progI ss) :
    Calls Tryz.prog 8 #[.slice A n cp] w fun e w' => e = .returned (.tuple #[.string ⟨#[]⟩, .bool false]) ∧ Below w.heap.size w w' := by
  have cp0 := impl_ProgramOk A n cp ss w hr hl hn
  rw [decide_eq_false hp] at cp0
  clear hp hr hl
  go_enter Tryz.func8, Tryz.ntmps8
  go_wp2_with fail
  refine cp0.mono ?_
  rintro e w1 ⟨rfl, hb1⟩
  clear cp0
  go_wp2_with fail
  go_ret2
  exact ⟨rfl, hb1⟩
set_option maxRecDepth 100000 in
set_option maxHeartbeats 1000000 in
theorem impl_FormatProgram_yes (A : Option Addr) (n cp : Nat) (ss : List St) (w : World) (hr : Ints w A (flat ss)) (hl : ss.length = n) (hp : progI ss) (ht : TabOk w) (hz : 8 ≤ w.heap.size) :
    Calls Tryz.prog 8 #[.slice A n cp] w fun e w' => e = .returned (.tuple #[.string ⟨(progL ss).toArray⟩, .bool true]) ∧ Below w.heap.size w w' := by
  have hn : n ≤ 40 := by rw [← hl]; exact hp.1
  have hok := runD_ok hp.2
  have cp0 := impl_ProgramOk A n cp ss w hr hl (by omega)
  rw [decide_eq_true hp] at cp0
  have hlen := progL_len hok
  have Hl := Lib.hid hl
  have Hok := Lib.hid hok
  have Hlen := Lib.hid hlen
  clear hl hok hlen hp
  go_enter Tryz.func8, Tryz.ntmps8
  go_wp2_with fail
  refine cp0.mono ?_
  rintro e w1 ⟨rfl, hb1⟩
  clear cp0
  go_wp2_with fail
  refine (sourceForms_any _).mono ?_
  rintro e w2 ⟨rfl, hf, hb2⟩
  have hbs := hb1.size
  have hb0 := hb1.trans (hb2.mono hbs)
  generalize w1.heap.size = B at hf
  clear hb1 hb2
  have hbl0 := Bld.new w2
  have hbA := below_alloc w2 (.cells #[.pointer none, .slice none 0 0] 49)
  have hr1 := hr.bound
  have hbs2 := hb0.size
  have Hhb := hb0
  obtain ⟨b, hbb⟩ : ∃ b, w2.heap.size = b := ⟨_, rfl⟩
  rw [hbb] at hbl0 hbA hbs2
  have hfb := hf
  go_wp2_with fail
  go_loopw [15] (fun i wr => ∃ k : Nat, k ≤ n ∧ i = .int .i64 k ∧ Bld b b (progL (ss.take k)) wr ∧ Below b w2 wr) (fun i _ => n - (intOf i).toNat)
  case atStart => exact ⟨0, Nat.zero_le _, rfl, hbl0, hbA⟩
  case round =>
    obtain ⟨k, hk, rfl, hbl, hb⟩ := hrel
    have hbw := Hhb.trans (hb.mono hbs2)
    have hsz := hb.size
    by_cases hlt : k < n
    · rcases hs : ss.getD k s0 with ⟨op, d, a, b0, c0, m⟩
      obtain ⟨g, o, rfl, -, q0, q1, q2, q3, q4, q5⟩ := cell6 (hr1.below hbw) (by have := Hl.out; omega) hs
      have hko := Hok.out k (by have := Hl.out; omega)
      have hst := progL_snoc ss k (by have := Hl.out; omega)
      have hl0 := Hlen.out k (by have := Hl.out; omega)
      rw [hs] at hko hst
      have hf1 := (fmt_len hko).1
      have c := fun w h1 h2 h3 => formatWith_any B op d a b0 c0 m w hko h1 h2 h3
      obtain ⟨t, ht4⟩ : ∃ t : ByteArray, t = ⟨(fmtL ⟨op, d, a, b0, c0, m⟩).toArray⟩ := ⟨_, rfl⟩
      have ht2 : t.data.toList = fmtL ⟨op, d, a, b0, c0, m⟩ := by rw [ht4]
      rw [← ht4] at c
      rw [← ht2] at hst hf1
      have hts : t.size ≤ 21 := by rw [str_size]; exact hf1
      have Hst := Lib.hid hst
      have k0 : (0 : Int) ≤ k := by omega
      have k1 : (k : Int) < n := by omega
      have hbl1 := hbl.below (below_alloc wr (.cells #[.int .i64 op, .int .i64 d, .int .i64 a, .int .i64 b0, .int .i64 c0, .int .i64 m] 34))
      have hb1 := hb.alloc (by omega) (.cells #[.int .i64 op, .int .i64 d, .int .i64 a, .int .i64 b0, .int .i64 c0, .int .i64 m] 34)
      have hbx := heap_alloc_new wr (.cells #[.int .i64 op, .int .i64 d, .int .i64 a, .int .i64 b0, .int .i64 c0, .int .i64 m] 34)
      have hcl : (progL (ss.take k)).length ≤ 880 := by omega
      clear ht4 ht2 hst hf1 hko hs hr hr1 hl0 hbl hb hbl0 hbA
      go_upto_region 8 with (fail)
      generalize hw3 : wr.alloc (.cells #[.int .i64 op, .int .i64 d, .int .i64 a, .int .i64 b0, .int .i64 c0, .int .i64 m] 34) = w3 at *
      clear hw3 q0 q1 q2 q3 q4 q5
      have x0 := (blk (i := 0) hbx rfl).1
      have x1 := (blk (i := 1) hbx rfl).1
      have x2 := (blk (i := 2) hbx rfl).1
      have x3 := (blk (i := 3) hbx rfl).1
      have x4 := (blk (i := 4) hbx rfl).1
      have x5 := (blk (i := 5) hbx rfl).1
      have hbw3 := Hhb.trans (hb1.mono hbs2)
      have hf3 : Forms B w3 := hfb.below (by rw [hbb]; exact hb1)
      go_wp2_with fail
      refine (c _ hf3 (tab_at ht hbw3 hz) (top_at hz hbw3)).mono ?_
      rintro e w4 ⟨rfl, hb4⟩
      have hs3 := hb1.size
      have hbl4 := hbl1.below hb4
      have hb5 := hb1.trans (hb4.mono (by omega))
      have hs5 := hb5.size
      clear c hb1 hb4 hbl1 hbx x0 x1 x2 x3 x4 x5 hf3
      go_wp2_with fail
      refine (bld_write b b _ t _ hbl4 (by omega) (by omega)).mono ?_
      rintro e w5 ⟨rfl, hbl5, hb6⟩
      have hb7 := hb5.trans hb6
      have hs7 := hb7.size
      clear hbl4 hb5 hb6
      go_wp2_with fail
      refine (bld_write b b _ ({ data := #[10] } : ByteArray) _ hbl5 (by rw [List.length_append, ← str_size]; show _ + t.size + 1 ≤ 1000000; omega) (by omega)).mono ?_
      rintro e w6 ⟨rfl, hbl6, hb8⟩
      have hb9 := hb7.trans hb8
      have hbl7 : Bld b b (progL (ss.take (k + 1))) w6 := by
        rw [Hst.out, ← List.append_assoc]
        exact hbl6
      have Hbl7 := Lib.hid hbl7
      clear hbl5 hbl6 hb7 hb8 hbl7
      go_wp2_with fail
      go_roundw
      case rel => exact ⟨k + 1, by omega, by go_num, Hbl7.out, hb9⟩
      case measure => simp [intOf]; omega
    · obtain rfl : k = n := by omega
      have e1 : ss.take k = ss := List.take_of_length_le (by have := Hl.out; omega)
      rw [e1] at hbl
      clear hr hr1 hbl0 hbA
      go_wp2_with fail
      refine (Tryz.Builder_String_any b b (progL ss) _ hbl (by omega)).mono ?_
      rintro e w7 ⟨rfl, hb7⟩
      have hb8 := Hhb.trans ((hb.trans hb7).mono hbs2)
      clear hbl
      go_wp2_with fail
      go_ret2
      exact ⟨rfl, hb8⟩
end Go.Proofs.YtjclhlicginekaaGreatDoor
