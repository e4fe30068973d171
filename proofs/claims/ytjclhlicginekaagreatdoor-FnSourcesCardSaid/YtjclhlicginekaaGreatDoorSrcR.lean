/- The program's reading of a line's fields. -/
import Derived.Test.YtjclhlicginekaaGreatDoorProg
import Derived.Test.YtjclhlicginekaaGreatDoorSrcI
import Derived.Test.YtjclhlicginekaaGreatDoorSrcC
import Derived.Test.YtjclhlicginekaaGreatDoorStmtA
import Derived.Test.YtjclhlicginekaaGreatDoorSplit
import Derived.BigQuiet
import Derived.Deep.QuietTactic
namespace Go.Proofs.YtjclhlicginekaaGreatDoor
open Go Go.RowKit Go.Maps
/-- A statement as a value; an answer of a parser. -/
def stV (s : St) : Value := .agg #[.int .i64 s.op, .int .i64 s.d, .int .i64 s.a, .int .i64 s.b, .int .i64 s.c, .int .i64 s.n]
def optV (o : Option St) : Value := match o with
  | some s => .tuple #[stV s, .bool true]
  | none => .tuple #[stV s0, .bool false]
theorem BoxSt.put {w : World} {g : Nat} {s : St} (h : BoxSt w g s) (k : Nat) (x : Int) : BoxSt (w.setCell ⟨g, fldC k, none⟩ (.int .i64 x)) g (putI k s x) ∧ w.frozen? ⟨g, fldC k, none⟩ = false := by
  unfold BoxSt at h ⊢
  have hh := heap_set (i := fldC k) h (.int .i64 x)
  refine ⟨?_, ?_⟩
  · rw [hh]
    unfold fldC putI
    split
    · rfl
    · split
      · rfl
      · split
        · rfl
        · split
          · rfl
          · rfl
  · exact (blk (i := fldC k) h (u := .int .i64 (fldI k s)) (by
      unfold fldC fldI
      split
      · rfl
      · split
        · rfl
        · split
          · rfl
          · split
            · rfl
            · rfl)).2
/-- The reading goes on. -/
theorem readA_step {ks : List Nat} {fs : List (List UInt8)} {j : Nat} {s : St} (h1 : j < ks.length) (h2 : j < fs.length) :
    readA (ks.drop j) (fs.drop j) s = match numA (ks.getD j 0) (fs.getD j []) with
      | some x => readA (ks.drop (j + 1)) (fs.drop (j + 1)) (putI (ks.getD j 0) s x)
      | none => none := by
  rw [List.drop_eq_getElem_cons h1, List.drop_eq_getElem_cons h2, readA, List.getD_eq_getElem?_getD, List.getD_eq_getElem?_getD, List.getElem?_eq_getElem h1, List.getElem?_eq_getElem h2]
  rfl
theorem readA_done (ks : List Nat) (fs : List (List UInt8)) (s : St) : readA (ks.drop ks.length) fs s = some s := by
  rw [List.drop_length]; rfl
/-- What CutPrefix and ParseUint make of a field. -/
theorem cut_mark (k : Nat) (f m : ByteArray) (hm : m.data.toList = markL k) :
    (∃ t, cutV f m = .tuple #[.string t, .bool true] ∧ t.size ≤ f.size ∧ ((isNum t.data.toList ∧ numA k f.data.toList = some ((dval 0 t.data.toList : Nat) : Int)) ∨ (¬ isNum t.data.toList ∧ numA k f.data.toList = none))) ∨
    (cutV f m = .tuple #[.string f, .bool false] ∧ numA k f.data.toList = none) := by
  classical
  have hs : m.size = (markL k).length := by rw [← hm]; simp
  unfold cutV
  by_cases hp : m.size ≤ f.size ∧ f.extract 0 m.size = m
  · rw [if_pos hp]
    have hp1 : (markL k).isPrefixOf f.data.toList = true := (prefix_take _ _).2 (by rw [← hs, ← Lib.extract_from_zero, hp.2, hm])
    have hrest : (f.extract m.size f.size).data.toList = f.data.toList.drop (markL k).length := by rw [Lib.extract_to_end, hs]
    refine .inl ⟨_, rfl, by rw [ByteArray.size_extract]; omega, ?_⟩
    rw [hrest]
    unfold numA
    by_cases hn : isNum (f.data.toList.drop (markL k).length)
    · exact .inl ⟨hn, by rw [if_pos ⟨hp1, hn⟩]⟩
    · exact .inr ⟨hn, by rw [if_neg fun h => hn h.2]⟩
  · rw [if_neg hp]
    refine .inr ⟨rfl, ?_⟩
    unfold numA
    rw [if_neg]
    intro h
    have h1 := (prefix_take _ _).1 h.1
    have h2 := congrArg List.length h1
    rw [List.length_take, ← hs] at h2
    have h3 : f.data.toList.length = f.size := by simp
    refine hp ⟨by omega, ?_⟩
    apply WideShapes.bytes_inj
    rw [Lib.extract_from_zero, hs, h1, hm]
theorem optV_none : optV none = .tuple #[.agg #[.int .i64 0, .int .i64 0, .int .i64 0, .int .i64 0, .int .i64 0, .int .i64 0], .bool false] := rfl
theorem split_small {l : List UInt8} (h : splitOK l) : l.length ≤ 600 ∧ (fieldsL l).length ≤ 24 := ⟨h.1, h.2.2⟩
theorem impl_Split (s : ByteArray) (hm : s.size ≤ 1048576) (w : World) :
    Calls Tryz.prog 59 #[.string s] w (SplitPost s.data.toList w) := by
  by_cases h : s.size ≤ 600
  · exact impl_SplitFields_any s w h
  · exact impl_SplitFields_long s w (by omega) (by omega)
set_option maxRecDepth 100000 in
set_option maxHeartbeats 1000000 in
/-- The line was rejected. -/
theorem readFields_bad (B : Nat) (s : ByteArray) (hm : s.size ≤ 1048576) (w : World) (hb : splitB s.data.toList = false) :
    Calls Tryz.prog 41 #[.map (some (B + 1)), .string s] w fun e w' => e = .returned (optV none) ∧ Below w.heap.size w w' := by
  have c := impl_Split s hm (w.alloc (.cells #[.int .i64 0, .int .i64 0, .int .i64 0, .int .i64 0, .int .i64 0, .int .i64 0] 34))
  have hbox := heap_alloc_new w (.cells #[.int .i64 0, .int .i64 0, .int .i64 0, .int .i64 0, .int .i64 0, .int .i64 0] 34)
  unfold SplitPost at c
  rw [optV_none]
  rw [hb] at c
  generalize splitF s.data.toList = F at c
  go_enter Tryz.func41, Tryz.ntmps41
  go_wp2_with fail
  refine c.mono ?_
  rintro e w1 ⟨v, rfl, -, hb1⟩
  have hb0 : Below w.heap.size w w1 := (below_alloc _ _).trans (hb1.mono (by simp))
  have hbx := heap_below hbox hb1
  obtain ⟨v0, f0⟩ := blk (i := 0) hbx rfl
  obtain ⟨v1, f1⟩ := blk (i := 1) hbx rfl
  obtain ⟨v2, f2⟩ := blk (i := 2) hbx rfl
  obtain ⟨v3, f3⟩ := blk (i := 3) hbx rfl
  obtain ⟨v4, f4⟩ := blk (i := 4) hbx rfl
  obtain ⟨v5, f5⟩ := blk (i := 5) hbx rfl
  clear c hb1 hbox
  go_wp2_with fail
  (try simp only [Exit.inBlock, Exit.then])
  refine bodyPost_ret (results_cell_tmp_row (P := Tryz.prog) rfl _ _ _ w.heap.size 34 _ (0, 0) _ rfl rfl (heap_set (heap_set (heap_set (heap_set (heap_set (heap_set hbx _) _) _) _) _) _) Tryz.underlying34 rfl (by kernel_rfl)) rfl ?_
  exact ⟨rfl, (((((hb0.setCell (Nat.le_refl _) _).setCell (Nat.le_refl _) _).setCell (Nat.le_refl _) _).setCell (Nat.le_refl _) _).setCell (Nat.le_refl _) _).setCell (Nat.le_refl _) _⟩
set_option maxRecDepth 100000 in
set_option maxHeartbeats 1000000 in
/-- No field. -/
theorem readFields_nil (B : Nat) (s : ByteArray) (hm : s.size ≤ 1048576) (w : World) (hb : splitB s.data.toList = true) (hF : splitF s.data.toList = []) :
    Calls Tryz.prog 41 #[.map (some (B + 1)), .string s] w fun e w' => e = .returned (optV none) ∧ Below w.heap.size w w' := by
  have c := impl_Split s hm (w.alloc (.cells #[.int .i64 0, .int .i64 0, .int .i64 0, .int .i64 0, .int .i64 0, .int .i64 0] 34))
  have hbox := heap_alloc_new w (.cells #[.int .i64 0, .int .i64 0, .int .i64 0, .int .i64 0, .int .i64 0, .int .i64 0] 34)
  unfold SplitPost at c
  rw [optV_none]
  rw [hb, hF] at c
  go_enter Tryz.func41, Tryz.ntmps41
  go_wp2_with fail
  refine c.mono ?_
  rintro e w1 ⟨v, rfl, hown, hb1⟩
  obtain ⟨A, m, cc, rfl, hm0⟩ := ownsRow_slice hown
  have hb0 : Below w.heap.size w w1 := (below_alloc _ _).trans (hb1.mono (by simp))
  have hbx := heap_below hbox hb1
  obtain ⟨v0, f0⟩ := blk (i := 0) hbx rfl
  obtain ⟨v1, f1⟩ := blk (i := 1) hbx rfl
  obtain ⟨v2, f2⟩ := blk (i := 2) hbx rfl
  obtain ⟨v3, f3⟩ := blk (i := 3) hbx rfl
  obtain ⟨v4, f4⟩ := blk (i := 4) hbx rfl
  obtain ⟨v5, f5⟩ := blk (i := 5) hbx rfl
  have hm1 : m = 0 := hm0.symm
  subst hm1
  clear c hb1 hbox hown hm0
  go_wp2_with fail
  (try simp only [Exit.inBlock, Exit.then])
  refine bodyPost_ret (results_cell_tmp_row (P := Tryz.prog) rfl _ _ _ w.heap.size 34 _ (0, 0) _ rfl rfl (heap_set (heap_set (heap_set (heap_set (heap_set (heap_set hbx _) _) _) _) _) _) Tryz.underlying34 rfl (by kernel_rfl)) rfl ?_
  exact ⟨rfl, (((((hb0.setCell (Nat.le_refl _) _).setCell (Nat.le_refl _) _).setCell (Nat.le_refl _) _).setCell (Nat.le_refl _) _).setCell (Nat.le_refl _) _).setCell (Nat.le_refl _) _⟩
/-- A row of texts at its place. -/
theorem row_at {w : World} {base m cc : Nat} {A : Option Addr} {F : List (List UInt8)} (h : w.ownsRow base 9 1 (.slice A m cc) m (strVals F)) (hF : F ≠ []) :
    ∃ g, A = some ⟨g, 0, none⟩ ∧ base ≤ g ∧ g < w.heap.size ∧ F.length = m ∧ ∀ j, j < m → w.cell? ⟨g, j, none⟩ = some (.string ⟨(F.getD j []).toArray⟩) := by
  have hl : F.length = m := by have := h.1; rw [strVals_length] at this; omega
  have h0 : 0 < m := by
    have : F.length ≠ 0 := fun e => hF (List.eq_nil_of_length_eq_zero e)
    omega
  obtain ⟨g, rfl, h1, h2⟩ := own_addr h h0
  refine ⟨g, rfl, h1, h2, hl, fun j hj => ?_⟩
  rw [h.cellAt j (by omega)]
  simp [strVals, List.getD_eq_getElem?_getD, List.getElem?_eq_getElem (show j < F.length by omega)]
set_option maxRecDepth 100000 in
set_option maxHeartbeats 1000000 in
/-- No word of the language. -/
theorem readFields_word (B : Nat) (s : ByteArray) (hm : s.size ≤ 1048576) (w : World) (hf : Forms B w) (hb : splitB s.data.toList = true) (hF : splitF s.data.toList ≠ []) (hw : opOf ((splitF s.data.toList).getD 0 []) = none) (hsm : ((splitF s.data.toList).getD 0 []).length ≤ 600) :
    Calls Tryz.prog 41 #[.map (some (B + 1)), .string s] w fun e w' => e = .returned (optV none) ∧ Below w.heap.size w w' := by
  have c := impl_Split s hm (w.alloc (.cells #[.int .i64 0, .int .i64 0, .int .i64 0, .int .i64 0, .int .i64 0, .int .i64 0] 34))
  have hbox := heap_alloc_new w (.cells #[.int .i64 0, .int .i64 0, .int .i64 0, .int .i64 0, .int .i64 0, .int .i64 0] 34)
  unfold SplitPost at c
  rw [optV_none]
  rw [hb] at c
  generalize splitF s.data.toList = F at c hF hw hsm
  go_enter Tryz.func41, Tryz.ntmps41
  go_wp2_with fail
  refine c.mono ?_
  rintro e w1 ⟨v, rfl, hown, hb1⟩
  obtain ⟨A, m, cc, rfl, hm0⟩ := ownsRow_slice hown
  have hb0 : Below w.heap.size w w1 := (below_alloc _ _).trans (hb1.mono (by simp))
  have hf1 := hf.below hb0
  have hbx := heap_below hbox hb1
  obtain ⟨v0, f0⟩ := blk (i := 0) hbx rfl
  obtain ⟨v1, f1⟩ := blk (i := 1) hbx rfl
  obtain ⟨v2, f2⟩ := blk (i := 2) hbx rfl
  obtain ⟨v3, f3⟩ := blk (i := 3) hbx rfl
  obtain ⟨v4, f4⟩ := blk (i := 4) hbx rfl
  obtain ⟨v5, f5⟩ := blk (i := 5) hbx rfl
  rw [hm0] at hown
  obtain ⟨g, rfl, g1, g2, g3, g4⟩ := row_at hown hF
  have r0 := g4 0 (by have : F.length ≠ 0 := fun e => hF (List.eq_nil_of_length_eq_zero e)
                      omega)
  have hmp : (0 : Int) < m := by have : F.length ≠ 0 := fun e => hF (List.eq_nil_of_length_eq_zero e)
                                 omega
  have hlk := hf1.look_no (s := ⟨(F.getD 0 []).toArray⟩) (by show (F.getD 0 []).toArray.size ≤ _; rw [List.size_toArray]; unfold maxLen; omega) (by simpa using hw)
  generalize (⟨(F.getD 0 []).toArray⟩ : ByteArray) = wd at hlk r0
  have hm2 : ((m : Int) == 0) = false := by simp; omega
  have hbx2 := heap_alloc hbx (.cells #[.int .i64 0, .slice none 0 0] 77)
  have hb2 := low_alloc hb0 (.cells #[.int .i64 0, .slice none 0 0] 77)
  clear c hb1 hbox hown hm0 g4 hF hw hsm hf hf1 hbx v0 v1 v2 v3 v4 v5 f0 f1 f2 f3 f4 f5
  go_upto_region 5 with (fail)
  generalize hw2 : w1.alloc (.cells #[.int .i64 0, .slice none 0 0] 77) = w2 at *
  clear hw2
  obtain ⟨y0, z0⟩ := blk (i := 0) hbx2 rfl
  obtain ⟨y1, z1⟩ := blk (i := 1) hbx2 rfl
  obtain ⟨y2, z2⟩ := blk (i := 2) hbx2 rfl
  obtain ⟨y3, z3⟩ := blk (i := 3) hbx2 rfl
  obtain ⟨y4, z4⟩ := blk (i := 4) hbx2 rfl
  obtain ⟨y5, z5⟩ := blk (i := 5) hbx2 rfl
  go_wp2_with fail
  (try simp only [Exit.inBlock, Exit.then])
  refine bodyPost_ret (results_cell_tmp_row (P := Tryz.prog) rfl _ _ _ w.heap.size 34 _ (0, 0) _ rfl rfl (heap_set (heap_set (heap_set (heap_set (heap_set (heap_set hbx2 _) _) _) _) _) _) Tryz.underlying34 rfl (by kernel_rfl)) rfl ?_
  exact ⟨rfl, (((((hb2.setCell (Nat.le_refl _) _).setCell (Nat.le_refl _) _).setCell (Nat.le_refl _) _).setCell (Nat.le_refl _) _).setCell (Nat.le_refl _) _).setCell (Nat.le_refl _) _⟩
set_option maxRecDepth 100000 in
set_option maxHeartbeats 1000000 in
/-- A wrong number of fields. -/
theorem readFields_len (B u : Nat) (u1 : 1 ≤ u) (u2 : u ≤ 13) (s : ByteArray) (hm : s.size ≤ 1048576) (w : World) (hf : Forms B w) (hb : splitB s.data.toList = true) (hF : splitF s.data.toList ≠ []) (hw : (splitF s.data.toList).getD 0 [] = wordL u) (hl : (splitF s.data.toList).length ≠ 1 + (argsN u).length) :
    Calls Tryz.prog 41 #[.map (some (B + 1)), .string s] w fun e w' => e = .returned (optV none) ∧ Below w.heap.size w w' := by
  have c := impl_Split s hm (w.alloc (.cells #[.int .i64 0, .int .i64 0, .int .i64 0, .int .i64 0, .int .i64 0, .int .i64 0] 34))
  have hbox := heap_alloc_new w (.cells #[.int .i64 0, .int .i64 0, .int .i64 0, .int .i64 0, .int .i64 0, .int .i64 0] 34)
  have hav := argV_is B u u2
  have hM4 := args_len u
  unfold SplitPost at c
  rw [optV_none]
  rw [hb] at c
  generalize splitF s.data.toList = F at c hF hw hl
  obtain ⟨M, hM⟩ : ∃ M, (argsN u).length = M := ⟨_, rfl⟩
  rw [hM] at hav hl hM4
  go_enter Tryz.func41, Tryz.ntmps41
  go_wp2_with fail
  refine c.mono ?_
  rintro e w1 ⟨v, rfl, hown, hb1⟩
  obtain ⟨A, m, cc, rfl, hm0⟩ := ownsRow_slice hown
  have hb0 : Below w.heap.size w w1 := (below_alloc _ _).trans (hb1.mono (by simp))
  have hf1 := hf.below hb0
  have hbx := heap_below hbox hb1
  rw [hm0] at hown
  obtain ⟨g, rfl, g1, g2, g3, g4⟩ := row_at hown hF
  have hF0 : F.length ≠ 0 := fun e => hF (List.eq_nil_of_length_eq_zero e)
  have r0 := g4 0 (by omega)
  have hmp : (0 : Int) < m := by omega
  have hlk := (hf1.look (s := ⟨(F.getD 0 []).toArray⟩) u1 u2 (by simpa using hw)).2
  unfold formV at hlk
  rw [hav] at hlk
  generalize (⟨(F.getD 0 []).toArray⟩ : ByteArray) = wd at hlk r0
  generalize argP B u = AP at hlk hav
  have hm2 : ((m : Int) == 0) = false := by simp; omega
  have hm3 : ((m : Int) != 1 + M) = true := by simp; omega
  have hbx2 := heap_alloc hbx (.cells #[.int .i64 u, .slice AP M M] 77)
  have hfx2 := heap_alloc_new w1 (.cells #[.int .i64 u, .slice AP M M] 77)
  have hb2 := low_alloc hb0 (.cells #[.int .i64 u, .slice AP M M] 77)
  clear c hb1 hbox hown hm0 g4 hF hw hf hf1 hbx hav hF0 hl
  go_upto_region 5 with (fail)
  generalize hg0 : w1.heap.size = h0 at *
  generalize hw2 : w1.alloc (.cells #[.int .i64 u, .slice AP M M] 77) = w2 at *
  clear hw2 hg0
  obtain ⟨x1, -⟩ := blk (i := 1) hfx2 rfl
  obtain ⟨y0, z0⟩ := blk (i := 0) hbx2 rfl
  obtain ⟨y1, z1⟩ := blk (i := 1) hbx2 rfl
  obtain ⟨y2, z2⟩ := blk (i := 2) hbx2 rfl
  obtain ⟨y3, z3⟩ := blk (i := 3) hbx2 rfl
  obtain ⟨y4, z4⟩ := blk (i := 4) hbx2 rfl
  obtain ⟨y5, z5⟩ := blk (i := 5) hbx2 rfl
  go_wp2_with fail
  (try simp only [Exit.inBlock, Exit.then])
  refine bodyPost_ret (results_cell_tmp_row (P := Tryz.prog) rfl _ _ _ w.heap.size 34 _ (0, 0) _ rfl rfl (heap_set (heap_set (heap_set (heap_set (heap_set (heap_set hbx2 _) _) _) _) _) _) Tryz.underlying34 rfl (by kernel_rfl)) rfl ?_
  exact ⟨rfl, (((((hb2.setCell (Nat.le_refl _) _).setCell (Nat.le_refl _) _).setCell (Nat.le_refl _) _).setCell (Nat.le_refl _) _).setCell (Nat.le_refl _) _).setCell (Nat.le_refl _) _⟩
theorem tail_at (F : List (List UInt8)) (k : Nat) : F.tail.getD k [] = F.getD (1 + k) [] := by
  cases F with
  | nil => simp
  | cons f r => rw [Nat.add_comm]; simp
set_option maxRecDepth 100000 in
set_option maxHeartbeats 2000000 in
/-- The fields behind the word. -/
theorem readFields_go (B u : Nat) (u1 : 1 ≤ u) (u2 : u ≤ 13) (s : ByteArray) (hm : s.size ≤ 1048576) (w : World) (hf : Forms B w) (ht : TabOk w) (he : ErrOk w) (hz : 8 ≤ w.heap.size) (hb : splitB s.data.toList = true) (hF : splitF s.data.toList ≠ []) (hw : (splitF s.data.toList).getD 0 [] = wordL u) (hl : (splitF s.data.toList).length = 1 + (argsN u).length)
    (hsm : ∀ j, ((splitF s.data.toList).getD j []).length ≤ 600) :
    Calls Tryz.prog 41 #[.map (some (B + 1)), .string s] w fun e w' => e = .returned (optV (readA (argsN u) (splitF s.data.toList).tail ⟨u, 0, 0, 0, 0, 0⟩)) ∧ Below w.heap.size w w' := by
  have c := impl_Split s hm (w.alloc (.cells #[.int .i64 0, .int .i64 0, .int .i64 0, .int .i64 0, .int .i64 0, .int .i64 0] 34))
  have hbox := heap_alloc_new w (.cells #[.int .i64 0, .int .i64 0, .int .i64 0, .int .i64 0, .int .i64 0, .int .i64 0] 34)
  have hav := argV_is B u u2
  have hM4 := args_len u
  unfold SplitPost at c
  rw [hb] at c
  generalize splitF s.data.toList = F at c hF hw hl hsm
  obtain ⟨M, hM⟩ : ∃ M, (argsN u).length = M := ⟨_, rfl⟩
  rw [hM] at hav hl hM4
  obtain ⟨R, hR⟩ : ∃ R, readA (argsN u) F.tail ⟨u, 0, 0, 0, 0, 0⟩ = R := ⟨_, rfl⟩
  rw [hR]
  go_enter Tryz.func41, Tryz.ntmps41
  go_wp2_with fail
  refine c.mono ?_
  rintro e w1 ⟨v, rfl, hown, hb1⟩
  obtain ⟨A, m, cc, rfl, hm0⟩ := ownsRow_slice hown
  have hb0 : Below w.heap.size w w1 := (below_alloc _ _).trans (hb1.mono (by simp))
  have hf1 := hf.below hb0
  have hbx := heap_below hbox hb1
  rw [hm0] at hown
  obtain ⟨g, rfl, g1, g2, g3, g4⟩ := row_at hown hF
  have hF0 : F.length ≠ 0 := fun e => hF (List.eq_nil_of_length_eq_zero e)
  have r0 := g4 0 (by omega)
  have hmp : (0 : Int) < m := by omega
  have hlk := (hf1.look (s := ⟨(F.getD 0 []).toArray⟩) u1 u2 (by simpa using hw)).2
  unfold formV at hlk
  rw [hav] at hlk
  have hG4 : ∀ j, j < m → (w1.alloc (.cells #[.int .i64 u, .slice (argP B u) M M] 77)).cell? ⟨g, j, none⟩ = some (.string ⟨(F.getD j []).toArray⟩) :=
    fun j hj => ((below_alloc w1 (.cells #[.int .i64 u, .slice (argP B u) M M] 77)).cell (p := ⟨g, j, none⟩) g2).trans (g4 j hj)
  generalize (⟨(F.getD 0 []).toArray⟩ : ByteArray) = wd at hlk r0
  obtain ⟨AP, hAP⟩ : ∃ AP, argP B u = AP := ⟨_, rfl⟩
  rw [hAP] at hlk hG4
  have HAP := Lib.hid hAP
  have HM := Lib.hid hM
  have hm2 : ((m : Int) == 0) = false := by simp; omega
  have hm3 : ((m : Int) != 1 + M) = false := by simp; omega
  have hbx2 := heap_alloc hbx (.cells #[.int .i64 u, .slice AP M M] 77)
  have hfx2 := heap_alloc_new w1 (.cells #[.int .i64 u, .slice AP M M] 77)
  have hb2 := low_alloc hb0 (.cells #[.int .i64 u, .slice AP M M] 77)
  have hsz2 := World.size_alloc w1 (.cells #[.int .i64 u, .slice AP M M] 77)
  have hwlt := heap_lt hbx
  have H4 := Lib.hid hG4
  have HR := Lib.hid hR
  have hM40 : (0 : Int) ≤ M := by omega
  clear c hb1 hbox hown hm0 g4 hF hw hf1 hbx hav hF0 hAP hM hG4 hR
  go_upto_region 5 with (fail)
  generalize hg0 : w1.heap.size = h0 at *
  generalize hw2 : w1.alloc (.cells #[.int .i64 u, .slice AP M M] 77) = w2 at *
  have Hw2 := Lib.hid hw2
  clear hw2 hg0
  obtain ⟨x0, -⟩ := blk (i := 0) hfx2 rfl
  obtain ⟨x1, -⟩ := blk (i := 1) hfx2 rfl
  have hst0 : BoxSt (w2.alloc (.cells #[.int .i64 u, .int .i64 0, .int .i64 0, .int .i64 0, .int .i64 0, .int .i64 0] 34)) (h0 + 1) ⟨u, 0, 0, 0, 0, 0⟩ := by
    rw [← hsz2]; exact heap_alloc_new w2 _
  have hb3 := (Below.refl w2.heap.size w2).alloc (Nat.le_refl _) (.cells #[.int .i64 u, .int .i64 0, .int .i64 0, .int .i64 0, .int .i64 0, .int .i64 0] 34)
  have hsz3 := World.size_alloc w2 (.cells #[.int .i64 u, .int .i64 0, .int .i64 0, .int .i64 0, .int .i64 0, .int .i64 0] 34)
  have hfx3 := heap_alloc hfx2 (.cells #[.int .i64 u, .int .i64 0, .int .i64 0, .int .i64 0, .int .i64 0, .int .i64 0] 34)
  rw [hsz2] at hb3 hsz3
  have Hst0 := Lib.hid hst0
  have Hb3 := Lib.hid hb3
  have Hsz3 := Lib.hid hsz3
  clear hst0 hb3 hsz3
  go_upto_region 8 with (fail)
  generalize hw3 : w2.alloc (.cells #[.int .i64 u, .int .i64 0, .int .i64 0, .int .i64 0, .int .i64 0, .int .i64 0] 34) = w3 at *
  clear hw3 x0 x1 hfx2
  obtain ⟨x1, -⟩ := blk (i := 1) hfx3 rfl
  clear hfx3 hlk r0
  go_wp2_with fail
  go_loopw [56] (fun i wr => ∃ (k : Nat) (st : St), k ≤ M ∧ i = .int .i64 k ∧ BoxSt wr (h0 + 1) st ∧ Hid (readA ((argsN u).drop k) (F.tail.drop k) st = R) ∧ Below (h0 + 1) w2 wr ∧ h0 + 1 < wr.heap.size) (fun i _ => M - (intOf i).toNat)
  case atStart => exact ⟨0, _, Nat.zero_le _, rfl, Hst0.out, HR, Hb3.out, by have := Hsz3.out; omega⟩
  case round =>
    obtain ⟨k, st, hk, rfl, hst, hrd, hb, hbs⟩ := hrel
    clear x1
    have hbw : Below w.heap.size w wr := hb2.trans (hb.mono (by omega))
    have hbxr := (hb.block w.heap.size (by omega)).trans hbx2
    by_cases hlt : k < M
    · have hfw := hf.below hbw
      have hksp : k < (argsN u).length := by rw [HM.out]; exact hlt
      obtain ⟨b', o', eA, hbl, hc⟩ := hfw.at_ (op := u) (j := k) u2 hksp
      rw [HAP.out] at eA
      subst eA
      have hstep := readA_step (s := st) hksp (show k < F.tail.length by rw [List.length_tail]; omega)
      rw [hrd.out, tail_at] at hstep
      have hq5 := args_small u k
      have hrow := (hb.cell (p := ⟨g, 1 + k, none⟩) (show g < h0 + 1 by omega)).trans (H4.out (1 + k) (by omega))
      have hfl := hsm (1 + k)
      obtain ⟨fd, hfd⟩ : ∃ fd : ByteArray, fd = ⟨(F.getD (1 + k) []).toArray⟩ := ⟨_, rfl⟩
      rw [← hfd] at hrow
      have hfs : fd.size ≤ 600 := by rw [hfd]; show (F.getD (1 + k) []).toArray.size ≤ 600; rw [List.size_toArray]; exact hfl
      have hfl2 : F.getD (1 + k) [] = fd.data.toList := by rw [hfd]
      rw [hfl2] at hstep
      generalize (argsN u).getD k 0 = q at hc hstep hq5
      obtain ⟨md, hmd⟩ : ∃ md : ByteArray, (⟨(markL q).toArray⟩ : ByteArray) = md := ⟨_, rfl⟩
      have hcm := cut_mark q fd md (by rw [← hmd])
      have cm := fun w' => mark_any q hq5 w'
      have cc := fun w' => cutPrefix_any fd md w'
      rw [hmd] at cm
      have k0 : (0 : Int) ≤ k := by omega
      have k1 : (k : Int) < M := by omega
      have k2 : (1 : Int) + k < m := by omega
      have k3 : (0 : Int) ≤ 1 + (k : Int) := by omega
      have kn : (1 + (k : Int)).toNat = 1 + k := by omega
      have Hstep := Lib.hid hstep
      clear hfl hfd hfl2 hmd hstep
      rcases hcm with ⟨t, ecut, ht2, hnum⟩ | ⟨ecut, hnum⟩
      · rw [ecut] at cc
        have cp := fun w' h1 h2 h3 => impl_ParseUint t (by omega) w' h1 h2 h3
        rcases hnum with ⟨hn, hv⟩ | ⟨hn, hv⟩
        · rw [parseR_yes hn] at cp
          have hR2 := Hstep.out
          rw [hv] at hR2
          generalize ((dval 0 t.data.toList : Nat) : Int) = x at cp hR2
          have HR2 := Lib.hid hR2
          have Cp := Lib.hid cp
          clear hn hv hR2 cp Hstep
          go_wp2_with fail
          go_quiet (first | (go_at_call 37; refine Calls.quiet_of_same (cm _)) | (go_at_call 60; refine Calls.quiet_of_same (cc _)))
          have hbq : Below (h0 + 1) w2 (wr.drewN nq) := ⟨hb.os, hb.tape, hb.output, hb.size, hb.block⟩
          have hbwq : Below w.heap.size w (wr.drewN nq) := ⟨hbw.os, hbw.tape, hbw.output, hbw.size, hbw.block⟩
          have hstq : BoxSt (wr.drewN nq) (h0 + 1) st := hst
          have hbxq : (wr.drewN nq).heap[w.heap.size]? = _ := hbxr
          have hszq : h0 + 1 < (wr.drewN nq).heap.size := hbs
          clear hb hbw hst hbxr hbs hc hrow cm cc hrd
          generalize wr.drewN nq = wq at *
          go_wp2_with fail
          refine (Cp.out _ (ht.below hbwq hz) (he.below hbwq hz) (Nat.le_trans hz hbwq.size)).mono ?_
          rintro e w4 ⟨rfl, hb4⟩
          have hst4 := hstq.below hb4 hszq
          have hbq4 := hbq.trans (hb4.mono (Nat.le_of_lt hszq))
          have hsz4 := hb4.size
          obtain ⟨hst5, hfr⟩ := hst4.put q x
          have hcl := hst4.fld q
          clear Cp hb4 hbq hstq hbxq hst4
          go_wp2_with fail
          refine (field_any q hq5 _ _).mono ?_
          rintro e w5 ⟨rfl, rfl⟩
          go_wp2_with fail
          go_roundw
          case rel => exact ⟨k + 1, _, by omega, by go_num, hst5, HR2.out.symm, hbq4.setCell (Nat.le_refl _) _, by simp; omega⟩
          case measure => simp [intOf]; omega
        · rw [parseR_no hn] at cp
          have hR2 := Hstep.out
          rw [hv] at hR2
          have HR2 := Lib.hid hR2
          have Cp := Lib.hid cp
          clear hn hv hR2 cp Hstep
          go_wp2_with fail
          go_quiet (first | (go_at_call 37; refine Calls.quiet_of_same (cm _)) | (go_at_call 60; refine Calls.quiet_of_same (cc _)))
          have hbq : Below (h0 + 1) w2 (wr.drewN nq) := ⟨hb.os, hb.tape, hb.output, hb.size, hb.block⟩
          have hbwq : Below w.heap.size w (wr.drewN nq) := ⟨hbw.os, hbw.tape, hbw.output, hbw.size, hbw.block⟩
          have hstq : BoxSt (wr.drewN nq) (h0 + 1) st := hst
          have hbxq : (wr.drewN nq).heap[w.heap.size]? = _ := hbxr
          have hszq : h0 + 1 < (wr.drewN nq).heap.size := hbs
          clear hb hbw hst hbxr hbs hc hrow cm cc hrd
          generalize wr.drewN nq = wq at *
          go_wp2_with fail
          refine (Cp.out _ (ht.below hbwq hz) (he.below hbwq hz) (Nat.le_trans hz hbwq.size)).mono ?_
          rintro e w4 ⟨rfl, hb4⟩
          have hb5 := hbwq.trans (hb4.mono hbwq.size)
          have hbx4 := heap_below hbxq hb4
          obtain ⟨y0, z0⟩ := blk (i := 0) hbx4 rfl
          obtain ⟨y1, z1⟩ := blk (i := 1) hbx4 rfl
          obtain ⟨y2, z2⟩ := blk (i := 2) hbx4 rfl
          obtain ⟨y3, z3⟩ := blk (i := 3) hbx4 rfl
          obtain ⟨y4, z4⟩ := blk (i := 4) hbx4 rfl
          obtain ⟨y5, z5⟩ := blk (i := 5) hbx4 rfl
          clear Cp hb4 hbq hstq hbxq
          go_wp2_with fail
          rw [HR2.out, optV_none]
          (try simp only [Exit.inBlock, Exit.then])
          refine bodyPost_ret (results_cell_tmp_row (P := Tryz.prog) rfl _ _ _ w.heap.size 34 _ (0, 0) _ rfl rfl (heap_set (heap_set (heap_set (heap_set (heap_set (heap_set hbx4 _) _) _) _) _) _) Tryz.underlying34 rfl (by kernel_rfl)) rfl ?_
          exact ⟨rfl, (((((hb5.setCell (Nat.le_refl _) _).setCell (Nat.le_refl _) _).setCell (Nat.le_refl _) _).setCell (Nat.le_refl _) _).setCell (Nat.le_refl _) _).setCell (Nat.le_refl _) _⟩
      · rw [ecut] at cc
        have cp := fun w' h1 h2 h3 => impl_ParseUint fd (by omega) w' h1 h2 h3
        obtain ⟨x, bb, hx⟩ := parseR_form fd.data.toList
        rw [hx] at cp
        have hR2 := Hstep.out
        rw [hnum] at hR2
        have HR2 := Lib.hid hR2
        have Cp := Lib.hid cp
        clear hx hnum hR2 cp Hstep
        go_wp2_with fail
        go_quiet (first | (go_at_call 37; refine Calls.quiet_of_same (cm _)) | (go_at_call 60; refine Calls.quiet_of_same (cc _)))
        have hbq : Below (h0 + 1) w2 (wr.drewN nq) := ⟨hb.os, hb.tape, hb.output, hb.size, hb.block⟩
        have hbwq : Below w.heap.size w (wr.drewN nq) := ⟨hbw.os, hbw.tape, hbw.output, hbw.size, hbw.block⟩
        have hstq : BoxSt (wr.drewN nq) (h0 + 1) st := hst
        have hbxq : (wr.drewN nq).heap[w.heap.size]? = _ := hbxr
        have hszq : h0 + 1 < (wr.drewN nq).heap.size := hbs
        clear hb hbw hst hbxr hbs hc hrow cm cc hrd
        generalize wr.drewN nq = wq at *
        go_wp2_with fail
        refine (Cp.out _ (ht.below hbwq hz) (he.below hbwq hz) (Nat.le_trans hz hbwq.size)).mono ?_
        rintro e w4 ⟨rfl, hb4⟩
        have hb5 := hbwq.trans (hb4.mono hbwq.size)
        have hbx4 := heap_below hbxq hb4
        obtain ⟨y0, z0⟩ := blk (i := 0) hbx4 rfl
        obtain ⟨y1, z1⟩ := blk (i := 1) hbx4 rfl
        obtain ⟨y2, z2⟩ := blk (i := 2) hbx4 rfl
        obtain ⟨y3, z3⟩ := blk (i := 3) hbx4 rfl
        obtain ⟨y4, z4⟩ := blk (i := 4) hbx4 rfl
        obtain ⟨y5, z5⟩ := blk (i := 5) hbx4 rfl
        clear Cp hb4 hbq hstq hbxq
        go_wp2_with fail
        rw [HR2.out, optV_none]
        (try simp only [Exit.inBlock, Exit.then])
        refine bodyPost_ret (results_cell_tmp_row (P := Tryz.prog) rfl _ _ _ w.heap.size 34 _ (0, 0) _ rfl rfl (heap_set (heap_set (heap_set (heap_set (heap_set (heap_set hbx4 _) _) _) _) _) _) Tryz.underlying34 rfl (by kernel_rfl)) rfl ?_
        exact ⟨rfl, (((((hb5.setCell (Nat.le_refl _) _).setCell (Nat.le_refl _) _).setCell (Nat.le_refl _) _).setCell (Nat.le_refl _) _).setCell (Nat.le_refl _) _).setCell (Nat.le_refl _) _⟩
    · obtain rfl : k = M := by omega
      have hfin := hrd.out
      rw [← HM.out, readA_done] at hfin
      obtain ⟨so, sd, sa, sb, sc, sn⟩ := st
      unfold BoxSt at hst
      obtain ⟨c0, d0⟩ := blk (i := 0) hst rfl
      obtain ⟨c1, d1⟩ := blk (i := 1) hst rfl
      obtain ⟨c2, d2⟩ := blk (i := 2) hst rfl
      obtain ⟨c3, d3⟩ := blk (i := 3) hst rfl
      obtain ⟨c4, d4⟩ := blk (i := 4) hst rfl
      obtain ⟨c5, d5⟩ := blk (i := 5) hst rfl
      obtain ⟨y0, z0⟩ := blk (i := 0) hbxr rfl
      obtain ⟨y1, z1⟩ := blk (i := 1) hbxr rfl
      obtain ⟨y2, z2⟩ := blk (i := 2) hbxr rfl
      obtain ⟨y3, z3⟩ := blk (i := 3) hbxr rfl
      obtain ⟨y4, z4⟩ := blk (i := 4) hbxr rfl
      obtain ⟨y5, z5⟩ := blk (i := 5) hbxr rfl
      clear hrd
      go_wp2_with fail
      rw [← hfin]
      (try simp only [Exit.inBlock, Exit.then])
      refine bodyPost_ret (results_cell_tmp_row (P := Tryz.prog) rfl _ _ _ w.heap.size 34 _ (0, 0) _ rfl rfl (heap_set (heap_set (heap_set (heap_set (heap_set (heap_set hbxr _) _) _) _) _) _) Tryz.underlying34 rfl (by kernel_rfl)) rfl ?_
      exact ⟨rfl, (((((hbw.setCell (Nat.le_refl _) _).setCell (Nat.le_refl _) _).setCell (Nat.le_refl _) _).setCell (Nat.le_refl _) _).setCell (Nat.le_refl _) _).setCell (Nat.le_refl _) _⟩
end Go.Proofs.YtjclhlicginekaaGreatDoor
