/- The model's ParseStmt. -/
import Derived.Test.YtjclhlicginekaaGreatDoorProg
import Derived.Test.YtjclhlicginekaaGreatDoorSrcT
import Derived.Test.YtjclhlicginekaaGreatDoorSrcR
import Derived.Test.YtjclhlicginekaaGreatDoorStmtA
import Derived.Deep.DeepCutAuto
import Derived.Deep.CutBlock
namespace Go.Proofs.YtjclhlicginekaaGreatDoor
open Go Go.RowKit
theorem spec_Split (s : ByteArray) (hm : s.size ≤ 1048576) (w : World) :
    Calls Tryz.prog 42 #[.string s] w (SplitPost s.data.toList w) := by
  by_cases h : s.size ≤ 600
  · exact spec_SplitFields_any s w h
  · exact spec_SplitFields_long s w (by omega) (by omega)
theorem pad_at (F : List (List UInt8)) (j i : Nat) : (F ++ List.replicate j []).getD i [] = F.getD i [] := by
  rw [List.getD_eq_getElem?_getD, List.getD_eq_getElem?_getD]
  by_cases h : i < F.length
  · rw [List.getElem?_append_left h]
  · rw [List.getElem?_append_right (by omega), List.getElem?_eq_none (l := F) (by omega)]
    cases e : (List.replicate j ([] : List UInt8))[i - F.length]? with
    | none => rfl
    | some x =>
      have := List.mem_of_getElem? e
      rw [List.mem_replicate] at this
      rw [this.2]; rfl
theorem pad_snoc (F : List (List UInt8)) (j : Nat) : strVals (F ++ List.replicate (j + 1) []) = strVals (F ++ List.replicate j []) ++ [.string ⟨#[]⟩] := by
  rw [List.replicate_succ', ← List.append_assoc, strVals_snoc]
theorem ownS_one {base n : Nat} {w : World} {v : Value} {ss : List St} {op d a b c m : Int} (h : w.ownsRow base 34 6 v (n + 1) (intVals (flat ss) ++ (#[Value.int .i64 op, .int .i64 d, .int .i64 a, .int .i64 b, .int .i64 c, .int .i64 m] : Array Value).toList)) : OwnS base w v (n + 1) (ss ++ [⟨op, d, a, b, c, m⟩]) := by
  unfold OwnS
  rw [flat_append]
  simpa [intVals, flat] using h
def slLen : Value → Nat
  | .slice _ n _ => n
  | _ => 0
/-- The candidates that the list holds: before the binary words, and when those below i were tried. -/
noncomputable def midL (o : Option Nat) (F : List (List UInt8)) (i : Nat) : List St := match o with
  | some u => if 3 ≤ u ∧ u ≤ 9 ∧ i ≤ u then [] else [candO u F]
  | none => []
theorem midL_len (o : Option Nat) (F : List (List UInt8)) (i : Nat) : (midL o F i).length ≤ 1 := by
  unfold midL
  repeat' split
  all_goals simp
theorem midL_step {o : Option Nat} {F : List (List UInt8)} {i : Nat} (h1 : 3 ≤ i) (h2 : i ≤ 9) :
    (o = some i → midL o F i = [] ∧ midL o F (i + 1) = [candO i F]) ∧ (o ≠ some i → midL o F (i + 1) = midL o F i) := by
  constructor
  · rintro rfl
    unfold midL
    exact ⟨if_pos ⟨h1, h2, Nat.le_refl _⟩, if_neg (by omega)⟩
  · intro h
    unfold midL
    cases o with
    | none => rfl
    | some u =>
      have hu : u ≠ i := fun e => h (by rw [e])
      simp only
      split <;> split
      all_goals first | rfl | omega
theorem lit_ne {wd : ByteArray} {l : List UInt8} (h : wd.data.toList ≠ l) : (wd.toList == l) = false ∧ ¬ wd.toList = l := by
  rw [Lib.toList_data]
  exact ⟨by simpa using h, h⟩
theorem lit_eq {wd : ByteArray} {l : List UInt8} (h : wd.data.toList = l) : (wd.toList == l) = true ∧ wd.toList = l := by
  rw [Lib.toList_data]
  exact ⟨by simpa using h, h⟩
theorem far_app {wB w8 : World} {o : Obj} {g5 g6 j : Nat} {v : Value} (hg : (wB.alloc o).grownBy w8 (some g6)) (hne : g5 ≠ g6) (h : wB.cell? ⟨g5, j, none⟩ = some v) : w8.cell? ⟨g5, j, none⟩ = some v := by
  have hl : g5 < wB.heap.size := World.block_lt_of_cell? wB _ h
  refine (hg.cell_far ⟨g5, j, none⟩ (by rw [World.size_alloc]; exact Nat.lt_succ_of_lt hl) (by simpa using hne)).trans ?_
  exact ((below_alloc wB o).cell (p := ⟨g5, j, none⟩) hl).trans h
theorem midL_ten (o : Option Nat) (F : List (List UInt8)) : midL o F 10 = (match o with | some u => [candO u F] | none => []) := by
  unfold midL
  cases o with
  | none => rfl
  | some u => exact if_neg (by omega)
theorem num_keep (k : Nat) (f L : ByteArray) (hL : L.data.toList = markL k) (hf : f.size ≤ 1048576) (W w1 : World) (G g6 : Nat) (p2 p3 : Addr) (v2 v3 : Value) (c2 : W.cell? p2 = some v2) (c3 : W.cell? p3 = some v3) (ho : W.ownsRow G 34 6 (.slice (some ⟨g6, 0, none⟩) 0 0) 0 (intVals (flat []))) (hb : Below G w1 W) (hs : G ≤ W.heap.size) :
    Calls Tryz.prog 43 #[.string f, .string L] W fun e w' => e = .returned (.int .i64 (numM k f.data.toList)) ∧ w'.cell? p2 = some v2 ∧ w'.cell? p3 = some v3 ∧ w'.ownsRow G 34 6 (.slice (some ⟨g6, 0, none⟩) 0 0) 0 (intVals (flat [])) ∧ Below G w1 w' ∧ G ≤ w'.heap.size := by
  refine (spec_Num k f L hL hf W).mono ?_
  rintro e w' ⟨rfl, h⟩
  exact ⟨rfl, (h.cell (World.block_lt_of_cell? W _ c2)).trans c2, (h.cell (World.block_lt_of_cell? W _ c3)).trans c3, own_below ho h, hb.trans (h.mono hs), Nat.le_trans hs h.size⟩
set_option maxRecDepth 100000 in
set_option maxHeartbeats 1000000 in
/-- The line was rejected. -/
theorem spec_Parse_bad (s : ByteArray) (hm : s.size ≤ 1048576) (w : World) (hb : splitB s.data.toList = false) :
    Calls Tryz.prog 28 #[.string s] w fun e w' => e = .returned (optV none) ∧ Below w.heap.size w w' := by
  have c := spec_Split s hm (w.alloc (.cells #[.int .i64 0, .int .i64 0, .int .i64 0, .int .i64 0, .int .i64 0, .int .i64 0] 34))
  have hbox := heap_alloc_new w (.cells #[.int .i64 0, .int .i64 0, .int .i64 0, .int .i64 0, .int .i64 0, .int .i64 0] 34)
  unfold SplitPost at c
  rw [optV_none]
  rw [hb] at c
  generalize splitF s.data.toList = F at c
  go_enter Tryz.func28, Tryz.ntmps28
  go_wp2_with fail
  refine c.mono ?_
  rintro e w1 ⟨v, rfl, -, hb1⟩
  have hb0 : Below w.heap.size w w1 := (below_alloc _ _).trans (hb1.mono (by simp))
  have hbx := heap_below hbox hb1
  obtain ⟨v0, f0⟩ := blk (i := 0) hbx rfl
  obtain ⟨v1, f1⟩ := blk (i := 1) hbx rfl
  obtain ⟨v2, f2⟩ := blk (i := 2) hbx rfl
  obtain ⟨v3, f3⟩ := blk (i := 3) hbx rfl
  obtain ⟨v4, f4⟩ := blk (i := 4) hbx rfl
  obtain ⟨v5, f5⟩ := blk (i := 5) hbx rfl
  clear c hb1 hbox
  go_wp2_with fail
  (try simp only [Exit.inBlock, Exit.then])
  refine bodyPost_ret (results_cell_tmp_row (P := Tryz.prog) rfl _ _ _ w.heap.size 34 _ (0, 0) _ rfl rfl (heap_set (heap_set (heap_set (heap_set (heap_set (heap_set hbx _) _) _) _) _) _) Tryz.underlying34 rfl (by kernel_rfl)) rfl ?_
  exact ⟨rfl, (((((hb0.setCell (Nat.le_refl _) _).setCell (Nat.le_refl _) _).setCell (Nat.le_refl _) _).setCell (Nat.le_refl _) _).setCell (Nat.le_refl _) _).setCell (Nat.le_refl _) _⟩
set_option maxRecDepth 100000 in
set_option maxHeartbeats 1000000 in
/-- No field, or more than five. -/
theorem spec_Parse_len (s : ByteArray) (hm : s.size ≤ 1048576) (w : World) (hb : splitB s.data.toList = true) (hF : (splitF s.data.toList).length = 0 ∨ 5 < (splitF s.data.toList).length) :
    Calls Tryz.prog 28 #[.string s] w fun e w' => e = .returned (optV none) ∧ Below w.heap.size w w' := by
  have c := spec_Split s hm (w.alloc (.cells #[.int .i64 0, .int .i64 0, .int .i64 0, .int .i64 0, .int .i64 0, .int .i64 0] 34))
  have hbox := heap_alloc_new w (.cells #[.int .i64 0, .int .i64 0, .int .i64 0, .int .i64 0, .int .i64 0, .int .i64 0] 34)
  unfold SplitPost at c
  rw [optV_none]
  rw [hb] at c
  generalize splitF s.data.toList = F at c hF
  go_enter Tryz.func28, Tryz.ntmps28
  go_wp2_with fail
  refine c.mono ?_
  rintro e w1 ⟨v, rfl, hown, hb1⟩
  obtain ⟨A, m, cc, rfl, hm0⟩ := ownsRow_slice hown
  have hb0 : Below w.heap.size w w1 := (below_alloc _ _).trans (hb1.mono (by simp))
  have hbx := heap_below hbox hb1
  obtain ⟨v0, f0⟩ := blk (i := 0) hbx rfl
  obtain ⟨v1, f1⟩ := blk (i := 1) hbx rfl
  obtain ⟨v2, f2⟩ := blk (i := 2) hbx rfl
  obtain ⟨v3, f3⟩ := blk (i := 3) hbx rfl
  obtain ⟨v4, f4⟩ := blk (i := 4) hbx rfl
  obtain ⟨v5, f5⟩ := blk (i := 5) hbx rfl
  rw [hm0] at hF
  clear c hb1 hbox hown hm0
  rcases hF with rfl | hF
  · go_wp2_with fail
    (try simp only [Exit.inBlock, Exit.then])
    refine bodyPost_ret (results_cell_tmp_row (P := Tryz.prog) rfl _ _ _ w.heap.size 34 _ (0, 0) _ rfl rfl (heap_set (heap_set (heap_set (heap_set (heap_set (heap_set hbx _) _) _) _) _) _) Tryz.underlying34 rfl (by kernel_rfl)) rfl ?_
    exact ⟨rfl, (((((hb0.setCell (Nat.le_refl _) _).setCell (Nat.le_refl _) _).setCell (Nat.le_refl _) _).setCell (Nat.le_refl _) _).setCell (Nat.le_refl _) _).setCell (Nat.le_refl _) _⟩
  · have h1 : ((m : Int) == 0) = false := by simp; omega
    have h2 : (5 : Int) < m := by omega
    go_wp2_with fail
    (try simp only [Exit.inBlock, Exit.then])
    refine bodyPost_ret (results_cell_tmp_row (P := Tryz.prog) rfl _ _ _ w.heap.size 34 _ (0, 0) _ rfl rfl (heap_set (heap_set (heap_set (heap_set (heap_set (heap_set hbx _) _) _) _) _) _) Tryz.underlying34 rfl (by kernel_rfl)) rfl ?_
    exact ⟨rfl, (((((hb0.setCell (Nat.le_refl _) _).setCell (Nat.le_refl _) _).setCell (Nat.le_refl _) _).setCell (Nat.le_refl _) _).setCell (Nat.le_refl _) _).setCell (Nat.le_refl _) _⟩
set_option maxRecDepth 100000 in
set_option maxHeartbeats 4000000 in
theorem spec_Parse_go (s : ByteArray) (hm : s.size ≤ 1048576) (w : World) (F : List (List UInt8)) (hF : splitF s.data.toList = F) (hb : splitB s.data.toList = true) (h1 : 1 ≤ F.length) (h5 : F.length ≤ 5) (hsm : ∀ j, (F.getD j []).length ≤ 600)
    (R : Option St) (hR0 : opOf (F.getD 0 []) = none → R = none) (hR1 : ∀ u, opOf (F.getD 0 []) = some u → R = pick s.data.toList (some (candO u F))) :
    Calls Tryz.prog 28 #[.string s] w fun e w' => e = .returned (optV R) ∧ Below w.heap.size w w' := by
  have c := spec_Split s hm (w.alloc (.cells #[.int .i64 0, .int .i64 0, .int .i64 0, .int .i64 0, .int .i64 0, .int .i64 0] 34))
  have hbox := heap_alloc_new w (.cells #[.int .i64 0, .int .i64 0, .int .i64 0, .int .i64 0, .int .i64 0, .int .i64 0] 34)
  have hsw := World.size_alloc w (.cells #[.int .i64 0, .int .i64 0, .int .i64 0, .int .i64 0, .int .i64 0, .int .i64 0] 34)
  have hba := below_alloc w (.cells #[.int .i64 0, .int .i64 0, .int .i64 0, .int .i64 0, .int .i64 0, .int .i64 0] 34)
  unfold SplitPost at c
  rw [hb, hF] at c
  rw [hsw] at c
  clear hb hF
  have HR0 := Lib.hid hR0
  have HR1 := Lib.hid hR1
  have Hsm := Lib.hid hsm
  clear hR0 hR1 hsm
  go_enter Tryz.func28, Tryz.ntmps28
  go_wp2_with fail
  refine c.mono ?_
  rintro e w1 ⟨v, rfl, hown, hb1⟩
  obtain ⟨A, m, cc, rfl, hm0⟩ := ownsRow_slice hown
  have hbx := heap_below hbox (by rw [hsw]; exact hb1)
  have hb0 : Below w.heap.size w w1 := hba.trans (hb1.mono (by omega))
  have hFn : F ≠ [] := fun e => by rw [e] at h1; simp at h1
  rw [hm0] at hown
  obtain ⟨g, rfl, g1, g2, g3, g4⟩ := row_at hown hFn
  have r0 := g4 0 (by omega)
  obtain ⟨wd, hwd⟩ : ∃ wd : ByteArray, wd = ⟨(F.getD 0 []).toArray⟩ := ⟨_, rfl⟩
  rw [← hwd] at r0
  have Hwd := Lib.hid hwd
  have m1 : ((m : Int) == 0) = false := by simp; omega
  have m2 : decide ((5 : Int) < m) = false := by simp; omega
  have m3 : (0 : Int) < m := by omega
  have hs1 := hb1.size
  rw [hsw] at hs1
  clear c hbox hba hm0 g4 hwd hFn
  go_wp2_with fail
  have Hbx := Lib.hid hbx
  generalize hG : w.heap.size + 1 = G at *
  have G3 := Lib.hid g3
  clear g3
  go_loopw [4] (fun v wr => ∃ (A : Option Addr) (j mm cc : Nat), v = .slice A mm cc ∧ Hid (mm = F.length + j) ∧ mm ≤ 5 ∧ wr.ownsRow G 9 1 (.slice A mm cc) mm (strVals (F ++ List.replicate j [])) ∧ Below G w1 wr) (fun v _ => 5 - slLen v)
  case atStart => exact ⟨_, 0, m, cc, rfl, (show m = F.length + 0 from by have := G3.out; omega), by have := G3.out; omega, by simpa using hown, Below.refl _ _⟩
  case round =>
    obtain ⟨A, j, mm, cc2, rfl, hmm, hm5, hown2, hb⟩ := hrel
    have hsz0 := hb.size
    have hsz : G ≤ wr.heap.size := by omega
    clear hown hsz0
    by_cases hlt : mm < 5
    · have k1 : (mm : Int) < 5 := by omega
      go_wp2_with (first | (at_builtin; refine app_list (e' := 9) elemStr rfl _ _ rfl G _ mm (strVals (F ++ List.replicate j [])) rfl (own_below hown2 (below_alloc _ _)) wr.heap.size 1 1 _ (0, 0) rfl (heap_alloc_new wr _) rfl (by intro u hu; simp at hu; subst hu; rfl) (by omega) (by unfold maxLen; omega) (by omega) (by simp; omega) (wr.heap.size + 1) (by simp) ?_))
      intro g2 cap w3 hown3 hgrow hat hgl
      have hb3 : Below G w1 w3 := below_own (hb.alloc (by omega) _) (own_below hown2 (below_alloc _ _)) hgrow (Nat.le_refl _) (by simp; omega)
      have hown4 : w3.ownsRow G 9 1 (.slice (some ⟨g2, 0, none⟩) (mm + 1) cap) (mm + 1) (strVals (F ++ List.replicate (j + 1) [])) := by rw [pad_snoc]; exact hown3
      have Hown4 := Lib.hid hown4
      clear hown3 hown4 hgrow hown2
      go_wp2_with fail
      go_roundw
      case rel => exact ⟨_, j + 1, mm + 1, cap, rfl, (show mm + 1 = F.length + (j + 1) from by have := hmm.out; omega), by omega, Hown4.out, hb3⟩
      case measure => simp [slLen]; omega
    · obtain rfl : mm = 5 := by omega
      obtain ⟨g5, rfl, -, gl, -, hrow⟩ := row_at hown2 (by intro e; rw [List.append_eq_nil_iff] at e; rw [e.1] at h1; simp at h1)
      have HP : ∀ i, i < 5 → wr.cell? ⟨g5, i, none⟩ = some (.string ⟨(F.getD i []).toArray⟩) := fun i hi => by rw [hrow i hi, pad_at]
      have hfs : ∀ i, (⟨(F.getD i []).toArray⟩ : ByteArray).size ≤ 1048576 := fun i => by
        have := Hsm.out i
        show (F.getD i []).toArray.size ≤ 1048576
        rw [List.size_toArray]; omega
      obtain ⟨r1, r2, r3, r4⟩ := (⟨HP 1 (by omega), HP 2 (by omega), HP 3 (by omega), HP 4 (by omega)⟩ : _ ∧ _ ∧ _ ∧ _)
      obtain ⟨z1, z2, z3, z4⟩ := (⟨hfs 1, hfs 2, hfs 3, hfs 4⟩ : _ ∧ _ ∧ _ ∧ _)
      obtain ⟨f1, hf1⟩ : ∃ f : ByteArray, f = ⟨(F.getD 1 []).toArray⟩ := ⟨_, rfl⟩
      obtain ⟨f2, hf2⟩ : ∃ f : ByteArray, f = ⟨(F.getD 2 []).toArray⟩ := ⟨_, rfl⟩
      obtain ⟨f3, hf3⟩ : ∃ f : ByteArray, f = ⟨(F.getD 3 []).toArray⟩ := ⟨_, rfl⟩
      obtain ⟨f4, hf4⟩ : ∃ f : ByteArray, f = ⟨(F.getD 4 []).toArray⟩ := ⟨_, rfl⟩
      rw [← hf1] at r1 z1
      rw [← hf2] at r2 z2
      rw [← hf3] at r3 z3
      rw [← hf4] at r4 z4
      have e1 : F.getD 1 [] = f1.data.toList := by rw [hf1]
      have e2 : F.getD 2 [] = f2.data.toList := by rw [hf2]
      have e3 : F.getD 3 [] = f3.data.toList := by rw [hf3]
      have e4 : F.getD 4 [] = f4.data.toList := by rw [hf4]
      have hcand : ∀ u, candO u F = candO u [[], f1.data.toList, f2.data.toList, f3.data.toList, f4.data.toList] := fun u => by
        unfold candO
        rw [e1, e2, e3, e4]; rfl
      have Hcand := Lib.hid hcand
      clear HP hfs hrow hf1 hf2 hf3 hf4 e1 e2 e3 e4 hcand hown2
      have hbx2 := (hb.block w.heap.size (by omega)).trans hbx
      go_wp2_with fail
      refine (spec_Num 0 f1 ({ data := #[114] } : ByteArray) rfl z1 _).mono ?_
      rintro e w3 ⟨rfl, hb3⟩
      have hb4 := hb.trans (hb3.mono hsz)
      replace r2 := (hb3.cell (p := ⟨g5, 2, none⟩) gl).trans r2
      replace r3 := (hb3.cell (p := ⟨g5, 3, none⟩) gl).trans r3
      replace r4 := (hb3.cell (p := ⟨g5, 4, none⟩) gl).trans r4
      replace hbx2 := heap_below hbx2 hb3
      have gl3 := Nat.lt_of_lt_of_le gl hb3.size
      have hs3 := hb4.size
      replace r1 := (hb3.cell (p := ⟨g5, 1, none⟩) gl).trans r1
      clear hb3
      go_wp2_with fail
      refine (spec_Num 0 f2 ({ data := #[114] } : ByteArray) rfl z2 _).mono ?_
      rintro e w4 ⟨rfl, hb3⟩
      have hb5 := hb4.trans (hb3.mono (by omega))
      replace r1 := (hb3.cell (p := ⟨g5, 1, none⟩) gl3).trans r1
      replace r2 := (hb3.cell (p := ⟨g5, 2, none⟩) gl3).trans r2
      replace r3 := (hb3.cell (p := ⟨g5, 3, none⟩) gl3).trans r3
      replace r4 := (hb3.cell (p := ⟨g5, 4, none⟩) gl3).trans r4
      replace hbx2 := heap_below hbx2 hb3
      have gl4 := Nat.lt_of_lt_of_le gl3 hb3.size
      have hs4 := hb5.size
      clear hb3 hb4
      go_wp2_with fail
      refine (spec_Num 0 f3 ({ data := #[114] } : ByteArray) rfl z3 _).mono ?_
      rintro e w5 ⟨rfl, hb3⟩
      have hb6 := hb5.trans (hb3.mono (by omega))
      replace r1 := (hb3.cell (p := ⟨g5, 1, none⟩) gl4).trans r1
      replace r2 := (hb3.cell (p := ⟨g5, 2, none⟩) gl4).trans r2
      replace r3 := (hb3.cell (p := ⟨g5, 3, none⟩) gl4).trans r3
      replace r4 := (hb3.cell (p := ⟨g5, 4, none⟩) gl4).trans r4
      replace hbx2 := heap_below hbx2 hb3
      have gl5 := Nat.lt_of_lt_of_le gl4 hb3.size
      have hs5 := hb6.size
      clear hb3 hb5
      have hown0 : (w5.alloc (.cells #[] 34)).ownsRow w5.heap.size 34 6 (.slice (some ⟨w5.heap.size, 0, none⟩) 0 0) 0 (intVals (flat [])) := World.ownsRow_lit w5 #[] 0 (Nat.le_refl _) (by unfold maxLen; omega) rfl
      have hb7 := hb6.alloc (by omega) (.cells #[] 34)
      have hbx3 := heap_alloc hbx2 (.cells #[] 34)
      have hgl6 : g5 < (w5.alloc (.cells #[] 34)).heap.size := by rw [World.size_alloc]; omega
      replace r1 := ((below_alloc w5 (.cells #[] 34)).cell (p := ⟨g5, 1, none⟩) gl5).trans r1
      replace r2 := ((below_alloc w5 (.cells #[] 34)).cell (p := ⟨g5, 2, none⟩) gl5).trans r2
      replace r3 := ((below_alloc w5 (.cells #[] 34)).cell (p := ⟨g5, 3, none⟩) gl5).trans r3
      replace r4 := ((below_alloc w5 (.cells #[] 34)).cell (p := ⟨g5, 4, none⟩) gl5).trans r4
      have hown1 := own_mono hown0 (show G ≤ w5.heap.size by omega)
      have hs6 : G ≤ (w5.alloc (.cells #[] 34)).heap.size := by rw [World.size_alloc]; omega
      have R1 := Lib.hid r1
      have R2 := Lib.hid r2
      have R3 := Lib.hid r3
      have R4 := Lib.hid r4
      clear hown0 r1 r2 r3 r4 hbx2 hb6
      go_upto_region 11 with (fail)
      generalize hw6 : w5.alloc (.cells #[] 34) = w6 at *
      generalize hg6 : w5.heap.size = g6 at *
      clear hw6
      obtain ⟨a1, ha1⟩ : ∃ x, numM 0 f1.data.toList = x := ⟨_, rfl⟩
      obtain ⟨a2, ha2⟩ : ∃ x, numM 0 f2.data.toList = x := ⟨_, rfl⟩
      obtain ⟨a3, ha3⟩ : ∃ x, numM 0 f3.data.toList = x := ⟨_, rfl⟩
      rw [ha1, ha2, ha3]
      have HA1 := Lib.hid ha1
      have HA2 := Lib.hid ha2
      have HA3 := Lib.hid ha3
      clear ha1 ha2 ha3
      go_upto_block 2 with (fail)
      go_cut [10] (fun s10 wx => ∃ (A : Option Addr) (q cq : Nat), s10 = .slice A q cq ∧ OwnS G wx (.slice A q cq) q (midL (opOf (F.getD 0 [])) F 3) ∧ Below G w1 wx)
      case first =>
        have hpre : ∀ u, opOf (F.getD 0 []) = some u → 1 ≤ u ∧ u ≤ 13 ∧ wd.data.toList = wordL u := fun u hu => by
          obtain ⟨u1, u2, u3⟩ := opOf_some hu
          exact ⟨u1, u2, by rw [Hwd.out]; exact u3.symm⟩
        have hnone : opOf (F.getD 0 []) = none → ∀ u, 1 ≤ u → u ≤ 13 → wd.data.toList ≠ wordL u := fun h u u1 u2 e => opOf_none h u u1 u2 (by rw [← e, Hwd.out])
        cases ho : opOf (F.getD 0 []) with
        | none =>
          have hn := hnone ho
          obtain ⟨n1, m1⟩ := lit_ne (wd := wd) (l := [99, 111, 110, 115, 116]) (hn 1 (by omega) (by omega))
          obtain ⟨n2, m2⟩ := lit_ne (wd := wd) (l := [105, 110, 112, 117, 116]) (hn 2 (by omega) (by omega))
          obtain ⟨n10, m10⟩ := lit_ne (wd := wd) (l := [109, 117, 120]) (hn 10 (by omega) (by omega))
          obtain ⟨n11, m11⟩ := lit_ne (wd := wd) (l := [111, 117, 116]) (hn 11 (by omega) (by omega))
          obtain ⟨n12, m12⟩ := lit_ne (wd := wd) (l := [108, 111, 111, 112]) (hn 12 (by omega) (by omega))
          obtain ⟨n13, m13⟩ := lit_ne (wd := wd) (l := [101, 110, 100]) (hn 13 (by omega) (by omega))
          have Ho := Lib.hid ho
          clear hpre hnone ho hn
          go_wp2_with fail
          go_meet
          exact ⟨_, _, _, rfl, by rw [Ho.out]; exact hown1, hb7⟩
        | some u =>
          obtain ⟨u1, u2, hwu⟩ := hpre u ho
          have hd : ∀ v, 1 ≤ v → v ≤ 13 → v ≠ u → wd.data.toList ≠ wordL v := fun v v1 v2 hv e => hv (word_inj v u v1 v2 u1 u2 (by rw [← e, hwu]))
          have hmid : ¬ (3 ≤ u ∧ u ≤ 9) → midL (some u) F 3 = [candO u F] := fun h => if_neg (by omega)
          have hmid2 : (3 ≤ u ∧ u ≤ 9) → midL (some u) F 3 = [] := fun h => if_pos (by omega)
          have Ho := Lib.hid ho
          clear hpre hnone ho
          have hc : u = 1 ∨ u = 2 ∨ u = 10 ∨ u = 11 ∨ u = 12 ∨ u = 13 ∨ (3 ≤ u ∧ u ≤ 9) := by omega
          rcases hc with rfl | rfl | rfl | rfl | rfl | rfl | hbin
          · have hcd : candO 1 F = ⟨1, a1, 0, 0, 0, numM 5 f2.data.toList⟩ := by rw [Hcand.out, ← HA1.out]; rfl
            have Hmid := Lib.hid (show midL (some 1) F 3 = [] ++ [⟨1, a1, 0, 0, 0, numM 5 f2.data.toList⟩] from by rw [hmid (by omega), hcd]; rfl)
            obtain ⟨he1, he2⟩ := lit_eq (wd := wd) (l := [99, 111, 110, 115, 116]) hwu
            clear hwu hd hmid hmid2 hcd
            have r2 := R2.out
            go_wp2_with fail
            refine (spec_Num 5 f2 ({ data := #[] } : ByteArray) rfl z2 _).mono ?_
            rintro e w7 ⟨rfl, hb8⟩
            have hown2 := own_below hown1 hb8
            have hb9 := hb7.trans (hb8.mono hs6)
            have hs7 := hb8.size
            clear hb8
            go_wp2_with (first | (at_builtin; refine app_list (e' := 34) elemStmt rfl _ _ rfl G _ 0 (intVals (flat [])) rfl (own_below hown2 (below_alloc _ _)) w7.heap.size 1 1 _ (0, 0) rfl (heap_alloc_new w7 _) rfl (oneCell_i64 [_, _, _, _, _, _]) (by omega) (by unfold maxLen; omega) (by omega) (by simp; omega) (w7.heap.size + 1) (by simp) ?_))
            intro g7 cap w8 hown3 hgrow hat hgl
            have hb10 : Below G w1 w8 := below_own (hb9.alloc (by omega) _) (own_below hown2 (below_alloc _ _)) hgrow (Nat.le_refl _) (by simp; omega)
            have hown4 := ownS_one (ss := []) hown3
            clear hown3 hgrow
            go_wp2_with fail
            go_meet
            exact ⟨_, _, _, rfl, by rw [Ho.out, Hmid.out]; exact hown4, hb10⟩
          · have hcd : candO 2 F = ⟨2, a1, numM 4 f2.data.toList, 0, 0, numM 5 f3.data.toList⟩ := by rw [Hcand.out, ← HA1.out]; rfl
            have Hmid := Lib.hid (show midL (some 2) F 3 = [] ++ [⟨2, a1, numM 4 f2.data.toList, 0, 0, numM 5 f3.data.toList⟩] from by rw [hmid (by omega), hcd]; rfl)
            obtain ⟨n1, m1⟩ := lit_ne (wd := wd) (l := [99, 111, 110, 115, 116]) (hd 1 (by omega) (by omega) (by omega))
            obtain ⟨he1, he2⟩ := lit_eq (wd := wd) (l := [105, 110, 112, 117, 116]) hwu
            clear hwu hd hmid hmid2 hcd
            have q2 : w6.drew.cell? ⟨g5, 2, none⟩ = _ := R2.out
            have q3 : w6.drew.cell? ⟨g5, 3, none⟩ = _ := R3.out
            have q4 : w6.drew.ownsRow G 34 6 (.slice (some ⟨g6, 0, none⟩) 0 0) 0 (intVals (flat [])) := hown1
            have q5 : Below G w1 w6.drew := hb7.drew
            have q6 : G ≤ w6.drew.heap.size := hs6
            have hne56 : g5 ≠ g6 := by omega
            go_wp2_with fail
            go_region_held3 (fun w' => w'.cell? ⟨g5, 2, none⟩ = some (.string f2) ∧ w'.cell? ⟨g5, 3, none⟩ = some (.string f3)) (first | exact ⟨by assumption, by assumption⟩ | (refine ⟨?_, ?_⟩ <;> first | assumption | (go_keep; done) | (simp [*]; done))) (first
              | (go_at_call 43; (with_reducible refine (num_keep 4 f2 ({ data := #[112] } : ByteArray) rfl z2 _ w1 G g6 ⟨g5, 2, none⟩ ⟨g5, 3, none⟩ (.string f2) (.string f3) ?_ ?_ ?_ ?_ ?_).mono ?_); assumption; assumption; assumption; assumption; assumption; rintro e wA ⟨rfl, qa2, qa3, qa4, qa5, qa6⟩)
              | (go_at_call 43; (with_reducible refine (num_keep 5 f3 ({ data := #[] } : ByteArray) rfl z3 _ w1 G g6 ⟨g5, 2, none⟩ ⟨g5, 3, none⟩ (.string f2) (.string f3) ?_ ?_ ?_ ?_ ?_).mono ?_); assumption; assumption; assumption; assumption; assumption; rintro e wB ⟨rfl, qb2, qb3, qb4, qb5, qb6⟩)
              | ((refine app_step (e' := 34) elemStmt (by rfl) _ _ (by rfl) G _ 0 (intVals (flat [])) (by rfl) (own_below qb4 (below_alloc _ _)) wB.heap.size 1 1 _ (0, 0) (by rfl) (heap_alloc_new wB _) (by rfl) (oneCell_i64 [_, _, _, _, _, _]) (by omega) (by unfold maxLen; omega) (by omega) (by simp; omega) (wB.heap.size + 1) (by simp) ?_; intro g7 cap w8 hown3 hgrow hat hgl; have hbL : Below G w1 w8 := below_own (Below.alloc qb5 qb6 _) (own_below qb4 (below_alloc _ _)) hgrow (Nat.le_refl _) (by simp; omega); have hc2 := far_app hgrow hne56 qb2; have hc3 := far_app hgrow hne56 qb3)))
            all_goals
              have hown4 := ownS_one (ss := []) hown3
              go_wp2_with fail
              go_meet
              exact ⟨_, _, _, rfl, by rw [Ho.out, Hmid.out]; exact hown4, hbL⟩
          · have hcd : candO 10 F = ⟨10, a1, a2, a3, numM 0 f4.data.toList, 0⟩ := by rw [Hcand.out, ← HA1.out, ← HA2.out, ← HA3.out]; rfl
            have Hmid := Lib.hid (show midL (some 10) F 3 = [] ++ [⟨10, a1, a2, a3, numM 0 f4.data.toList, 0⟩] from by rw [hmid (by omega), hcd]; rfl)
            obtain ⟨n1, m1⟩ := lit_ne (wd := wd) (l := [99, 111, 110, 115, 116]) (hd 1 (by omega) (by omega) (by omega))
            obtain ⟨n2, m2⟩ := lit_ne (wd := wd) (l := [105, 110, 112, 117, 116]) (hd 2 (by omega) (by omega) (by omega))
            obtain ⟨he1, he2⟩ := lit_eq (wd := wd) (l := [109, 117, 120]) hwu
            clear hwu hd hmid hmid2 hcd
            have r4 := R4.out
            go_wp2_with fail
            refine (spec_Num 0 f4 ({ data := #[114] } : ByteArray) rfl z4 _).mono ?_
            rintro e w7 ⟨rfl, hb8⟩
            have hown2 := own_below hown1 hb8
            have hb9 := hb7.trans (hb8.mono hs6)
            have hs7 := hb8.size
            clear hb8
            go_wp2_with (first | (at_builtin; refine app_list (e' := 34) elemStmt rfl _ _ rfl G _ 0 (intVals (flat [])) rfl (own_below hown2 (below_alloc _ _)) w7.heap.size 1 1 _ (0, 0) rfl (heap_alloc_new w7 _) rfl (oneCell_i64 [_, _, _, _, _, _]) (by omega) (by unfold maxLen; omega) (by omega) (by simp; omega) (w7.heap.size + 1) (by simp) ?_))
            intro g7 cap w8 hown3 hgrow hat hgl
            have hb10 : Below G w1 w8 := below_own (hb9.alloc (by omega) _) (own_below hown2 (below_alloc _ _)) hgrow (Nat.le_refl _) (by simp; omega)
            have hown4 := ownS_one (ss := []) hown3
            clear hown3 hgrow
            go_wp2_with fail
            go_meet
            exact ⟨_, _, _, rfl, by rw [Ho.out, Hmid.out]; exact hown4, hb10⟩
          · have hcd : candO 11 F = ⟨11, 0, a1, 0, 0, 0⟩ := by rw [Hcand.out, ← HA1.out]; rfl
            have Hmid := Lib.hid (show midL (some 11) F 3 = [] ++ [⟨11, 0, a1, 0, 0, 0⟩] from by rw [hmid (by omega), hcd]; rfl)
            obtain ⟨n1, m1⟩ := lit_ne (wd := wd) (l := [99, 111, 110, 115, 116]) (hd 1 (by omega) (by omega) (by omega))
            obtain ⟨n2, m2⟩ := lit_ne (wd := wd) (l := [105, 110, 112, 117, 116]) (hd 2 (by omega) (by omega) (by omega))
            obtain ⟨n10, m10⟩ := lit_ne (wd := wd) (l := [109, 117, 120]) (hd 10 (by omega) (by omega) (by omega))
            obtain ⟨he1, he2⟩ := lit_eq (wd := wd) (l := [111, 117, 116]) hwu
            clear hwu hd hmid hmid2 hcd
            go_wp2_with (first | (at_builtin; refine app_list (e' := 34) elemStmt rfl _ _ rfl G _ 0 (intVals (flat [])) rfl (own_below hown1 (below_alloc _ _)) w6.heap.size 1 1 _ (0, 0) rfl (heap_alloc_new w6 _) rfl (oneCell_i64 [_, _, _, _, _, _]) (by omega) (by unfold maxLen; omega) (by omega) (by simp; omega) (w6.heap.size + 1) (by simp) ?_))
            intro g7 cap w8 hown3 hgrow hat hgl
            have hb10 : Below G w1 w8 := below_own (hb7.alloc (by omega) _) (own_below hown1 (below_alloc _ _)) hgrow (Nat.le_refl _) (by simp; omega)
            have hown4 := ownS_one (ss := []) hown3
            clear hown3 hgrow
            go_wp2_with fail
            go_meet
            exact ⟨_, _, _, rfl, by rw [Ho.out, Hmid.out]; exact hown4, hb10⟩
          · have hcd : candO 12 F = ⟨12, 0, 0, 0, 0, numM 5 f1.data.toList⟩ := by rw [Hcand.out]; rfl
            have Hmid := Lib.hid (show midL (some 12) F 3 = [] ++ [⟨12, 0, 0, 0, 0, numM 5 f1.data.toList⟩] from by rw [hmid (by omega), hcd]; rfl)
            obtain ⟨n1, m1⟩ := lit_ne (wd := wd) (l := [99, 111, 110, 115, 116]) (hd 1 (by omega) (by omega) (by omega))
            obtain ⟨n2, m2⟩ := lit_ne (wd := wd) (l := [105, 110, 112, 117, 116]) (hd 2 (by omega) (by omega) (by omega))
            obtain ⟨n10, m10⟩ := lit_ne (wd := wd) (l := [109, 117, 120]) (hd 10 (by omega) (by omega) (by omega))
            obtain ⟨n11, m11⟩ := lit_ne (wd := wd) (l := [111, 117, 116]) (hd 11 (by omega) (by omega) (by omega))
            obtain ⟨he1, he2⟩ := lit_eq (wd := wd) (l := [108, 111, 111, 112]) hwu
            clear hwu hd hmid hmid2 hcd
            have r1 := R1.out
            go_wp2_with fail
            refine (spec_Num 5 f1 ({ data := #[] } : ByteArray) rfl z1 _).mono ?_
            rintro e w7 ⟨rfl, hb8⟩
            have hown2 := own_below hown1 hb8
            have hb9 := hb7.trans (hb8.mono hs6)
            have hs7 := hb8.size
            clear hb8
            go_wp2_with (first | (at_builtin; refine app_list (e' := 34) elemStmt rfl _ _ rfl G _ 0 (intVals (flat [])) rfl (own_below hown2 (below_alloc _ _)) w7.heap.size 1 1 _ (0, 0) rfl (heap_alloc_new w7 _) rfl (oneCell_i64 [_, _, _, _, _, _]) (by omega) (by unfold maxLen; omega) (by omega) (by simp; omega) (w7.heap.size + 1) (by simp) ?_))
            intro g7 cap w8 hown3 hgrow hat hgl
            have hb10 : Below G w1 w8 := below_own (hb9.alloc (by omega) _) (own_below hown2 (below_alloc _ _)) hgrow (Nat.le_refl _) (by simp; omega)
            have hown4 := ownS_one (ss := []) hown3
            clear hown3 hgrow
            go_wp2_with fail
            go_meet
            exact ⟨_, _, _, rfl, by rw [Ho.out, Hmid.out]; exact hown4, hb10⟩
          · have hcd : candO 13 F = ⟨13, 0, 0, 0, 0, 0⟩ := by rw [Hcand.out]; rfl
            have Hmid := Lib.hid (show midL (some 13) F 3 = [] ++ [⟨13, 0, 0, 0, 0, 0⟩] from by rw [hmid (by omega), hcd]; rfl)
            obtain ⟨n1, m1⟩ := lit_ne (wd := wd) (l := [99, 111, 110, 115, 116]) (hd 1 (by omega) (by omega) (by omega))
            obtain ⟨n2, m2⟩ := lit_ne (wd := wd) (l := [105, 110, 112, 117, 116]) (hd 2 (by omega) (by omega) (by omega))
            obtain ⟨n10, m10⟩ := lit_ne (wd := wd) (l := [109, 117, 120]) (hd 10 (by omega) (by omega) (by omega))
            obtain ⟨n11, m11⟩ := lit_ne (wd := wd) (l := [111, 117, 116]) (hd 11 (by omega) (by omega) (by omega))
            obtain ⟨n12, m12⟩ := lit_ne (wd := wd) (l := [108, 111, 111, 112]) (hd 12 (by omega) (by omega) (by omega))
            obtain ⟨he1, he2⟩ := lit_eq (wd := wd) (l := [101, 110, 100]) hwu
            clear hwu hd hmid hmid2 hcd
            go_wp2_with (first | (at_builtin; refine app_list (e' := 34) elemStmt rfl _ _ rfl G _ 0 (intVals (flat [])) rfl (own_below hown1 (below_alloc _ _)) w6.heap.size 1 1 _ (0, 0) rfl (heap_alloc_new w6 _) rfl (oneCell_i64 [_, _, _, _, _, _]) (by omega) (by unfold maxLen; omega) (by omega) (by simp; omega) (w6.heap.size + 1) (by simp) ?_))
            intro g7 cap w8 hown3 hgrow hat hgl
            have hb10 : Below G w1 w8 := below_own (hb7.alloc (by omega) _) (own_below hown1 (below_alloc _ _)) hgrow (Nat.le_refl _) (by simp; omega)
            have hown4 := ownS_one (ss := []) hown3
            clear hown3 hgrow
            go_wp2_with fail
            go_meet
            exact ⟨_, _, _, rfl, by rw [Ho.out, Hmid.out]; exact hown4, hb10⟩
          · have Hmid := Lib.hid (hmid2 hbin)
            obtain ⟨n1, m1⟩ := lit_ne (wd := wd) (l := [99, 111, 110, 115, 116]) (hd 1 (by omega) (by omega) (by omega))
            obtain ⟨n2, m2⟩ := lit_ne (wd := wd) (l := [105, 110, 112, 117, 116]) (hd 2 (by omega) (by omega) (by omega))
            obtain ⟨n10, m10⟩ := lit_ne (wd := wd) (l := [109, 117, 120]) (hd 10 (by omega) (by omega) (by omega))
            obtain ⟨n11, m11⟩ := lit_ne (wd := wd) (l := [111, 117, 116]) (hd 11 (by omega) (by omega) (by omega))
            obtain ⟨n12, m12⟩ := lit_ne (wd := wd) (l := [108, 111, 111, 112]) (hd 12 (by omega) (by omega) (by omega))
            obtain ⟨n13, m13⟩ := lit_ne (wd := wd) (l := [101, 110, 100]) (hd 13 (by omega) (by omega) (by omega))
            clear hwu hd hmid hmid2
            go_wp2_with fail
            go_meet
            exact ⟨_, _, _, rfl, by rw [Ho.out, Hmid.out]; exact hown1, hb7⟩
      case rest =>
        obtain ⟨A, q, cq, rfl, hown2, hbc⟩ := hcut
        clear hown1 hb7
        have hsc0 := hbc.size
        have hsc : G ≤ wc.heap.size := by omega
        obtain ⟨o, ho⟩ : ∃ o, opOf (F.getD 0 []) = o := ⟨_, rfl⟩
        have hprew : ∀ u, 3 ≤ u → u ≤ 9 → (o = some u ↔ wd.data.toList = wordL u) := fun u u1 u2 => by
          rw [← ho, Hwd.out]
          constructor
          · intro e; exact (opOf_some e).2.2.symm
          · intro e
            have e' : F.getD 0 [] = wordL u := e
            rw [e']; exact opOf_word u (by omega) (by omega)
        have hRn : o = none → R = none := fun e => HR0.out (by rw [ho]; exact e)
        have hRs : ∀ u, o = some u → R = pick s.data.toList (some (candO u F)) := fun u e => HR1.out u (by rw [ho]; exact e)
        rw [ho] at hown2
        have HRn := Lib.hid hRn
        have HRs := Lib.hid hRs
        have Hprew := Lib.hid hprew
        clear hRn hRs hprew ho R1 R2 R3 R4 hbx3 hbx
        go_wp2_with fail
        go_loopw [10, 11] (fun s10 s11 wr => ∃ (A : Option Addr) (q cq k : Nat), s10 = .slice A q cq ∧ s11 = .int .i64 k ∧ 3 ≤ k ∧ k ≤ 10 ∧ q ≤ 1 ∧ OwnS G wr (.slice A q cq) q (midL o F k) ∧ Below G w1 wr) (fun _ s11 _ => 10 - (intOf s11).toNat)
        case atStart =>
          have hq : q ≤ 1 := by
            have := (OwnS.ints hown2).2
            have := midL_len o F 3
            omega
          exact ⟨A, q, cq, 3, rfl, rfl, by omega, by omega, hq, hown2, hbc⟩
        case round =>
          obtain ⟨A, q, cq, k, rfl, rfl, hk3, hk10, hq, hown3, hbk⟩ := hrel
          have hsk0 := hbk.size
          have hsk : G ≤ wr.heap.size := by omega
          clear hown2 hbc
          by_cases hk9 : k ≤ 9
          · have hk9i : (k : Int) ≤ 9 := by omega
            obtain ⟨st1, st2⟩ := midL_step (o := o) (F := F) hk3 hk9
            have hpk := Hprew.out k hk3 hk9
            have cw := spec_Word k (by omega) (by omega) wr
            obtain ⟨tw, htw⟩ : ∃ t : ByteArray, t = ⟨(wordL k).toArray⟩ := ⟨_, rfl⟩
            have htw2 : tw.data.toList = wordL k := by rw [htw]
            rw [← htw] at cw
            clear htw
            by_cases hok : o = some k
            · obtain ⟨t1, t2⟩ := st1 hok
              rw [t1] at hown3
              have hq0 : q = 0 := by have := (OwnS.ints hown3).2; simp at this; omega
              subst hq0
              have hwt : wd = tw := by apply WideShapes.bytes_inj; rw [hpk.1 hok, htw2]
              have hcb : candO k F = ⟨k, a1, a2, a3, 0, 0⟩ := by
                rw [Hcand.out, ← HA1.out, ← HA2.out, ← HA3.out]
                unfold candO
                rw [if_neg (by omega), if_neg (by omega), if_neg (by omega), if_neg (by omega), if_neg (by omega), if_neg (by omega)]
                rfl
              have T2 := Lib.hid (t2.trans (by rw [hcb]))
              clear hpk htw2 st1 st2 t1 t2 hok hcb
              subst hwt
              go_wp2_with fail
              refine cw.mono ?_
              rintro e w8 ⟨rfl, hb8⟩
              have hown4 := own_below hown3 hb8
              have hb9 := hbk.trans (hb8.mono hsk)
              have hs8 := hb8.size
              clear hb8 cw
              go_wp2_with (first | (at_builtin; refine app_list (e' := 34) elemStmt rfl _ _ rfl G _ 0 (intVals (flat [])) rfl (own_below hown4 (below_alloc _ _)) w8.heap.size 1 1 _ (0, 0) rfl (heap_alloc_new w8 _) rfl (oneCell_i64 [_, _, _, _, _, _]) (by omega) (by unfold maxLen; omega) (by omega) (by simp; omega) (w8.heap.size + 1) (by simp) ?_))
              intro g7 cap w9 hown5 hgrow hat hgl
              have hb10 : Below G w1 w9 := below_own (hb9.alloc (by omega) _) (own_below hown4 (below_alloc _ _)) hgrow (Nat.le_refl _) (by simp; omega)
              have hown6 := ownS_one (ss := []) hown5
              have Hown6 := Lib.hid hown6
              clear hown5 hown6 hgrow hown4
              go_wp2_with fail
              go_roundw
              case rel => exact ⟨_, 1, cap, k + 1, rfl, by go_num, by omega, by omega, Nat.le_refl _, by rw [T2.out]; exact Hown6.out, hb10⟩
              case measure => simp [intOf]; omega
            · have t2 := st2 hok
              obtain ⟨n1, n2⟩ := str_ne (a := wd) (b := tw) (fun e => hok (hpk.2 (by rw [e, htw2])))
              have T2 := Lib.hid t2
              clear hpk htw2 st1 st2 t2 hok
              go_wp2_with fail
              refine cw.mono ?_
              rintro e w8 ⟨rfl, hb8⟩
              have hown4 := own_below hown3 hb8
              have hb9 := hbk.trans (hb8.mono hsk)
              clear hb8 cw hown3
              go_wp2_with fail
              go_roundw
              case rel => exact ⟨_, q, cq, k + 1, rfl, by go_num, by omega, by omega, hq, by rw [T2.out]; exact hown4, hb9⟩
              case measure => simp [intOf]; omega
          · obtain rfl : k = 10 := by omega
            rw [show (((10 : Nat) : Int)) = 10 from rfl]
            obtain ⟨L, hL⟩ : ∃ L, midL o F 10 = L := ⟨_, rfl⟩
            rw [hL] at hown3
            rw [midL_ten] at hL
            have hRn : L = [] → R = none := fun e => by
              rw [e] at hL
              cases o with
              | none => exact HRn.out rfl
              | some u => cases hL
            have hRs : ∀ c, L = [c] → R = pick s.data.toList (some c) := fun c e => by
              rw [e] at hL
              cases o with
              | none => cases hL
              | some u =>
                injection hL with e _
                rw [← e]; exact HRs.out u rfl
            have hLq := (OwnS.ints hown3).2
            have HLq := Lib.hid hLq
            have HRn2 := Lib.hid hRn
            have HRs2 := Lib.hid hRs
            have hbxk := (hbk.block w.heap.size (by omega)).trans (show w1.heap[w.heap.size]? = _ from Hbx.out)
            clear hRn hRs hLq hL
            go_wp2_with fail
            go_loopw [12] (fun s12 wr2 => ∃ k : Nat, k ≤ q ∧ s12 = .int .i64 k ∧ Hid (0 < k → R = none) ∧ OwnS G wr2 (.slice A q cq) q L ∧ Below G w1 wr2) (fun s12 _ => q - (intOf s12).toNat)
            case atStart => exact ⟨0, Nat.zero_le _, rfl, (show 0 < 0 → R = none from fun h => absurd h (by omega)), hown3, hbk⟩
            case round =>
              obtain ⟨k, hkq, rfl, hk0, hown4, hb4⟩ := hrel
              have hs40 := hb4.size
              have hs4 : G ≤ wr.heap.size := by omega
              have hbx4 := (hb4.block w.heap.size (by omega)).trans (show w1.heap[w.heap.size]? = _ from Hbx.out)
              have hbfin := hb0.trans (hb4.mono (by omega))
              clear hown3 hbk hbxk
              by_cases hlt : k < q
              · obtain rfl : q = 1 := by omega
                obtain rfl : k = 0 := by omega
                obtain ⟨cc, hcc⟩ : ∃ c, L = [c] := by
                  match L, HLq.out with
                  | [c], _ => exact ⟨c, rfl⟩
                subst hcc
                have hRc := HRs2.out cc rfl
                obtain ⟨co, cd, ca, cb, c3, cn⟩ := cc
                obtain ⟨gq, oq, rfl, -, x0, x1, x2, x3, x4, x5⟩ := cell6 (OwnS.ints hown4).1.bound (j := 0) (by simp) rfl
                simp only [Nat.zero_mul, Nat.add_zero] at x0 x1 x2 x3 x4 x5
                by_cases hok : St.ok ⟨co, cd, ca, cb, c3, cn⟩
                · have cf := spec_FormatStmt_yes co cd ca cb c3 cn wr hok
                  by_cases heq : fmtL ⟨co, cd, ca, cb, c3, cn⟩ = s.data.toList
                  · have hRy : R = some ⟨co, cd, ca, cb, c3, cn⟩ := by rw [hRc]; exact pick_some hok heq
                    have hst : (⟨(fmtL ⟨co, cd, ca, cb, c3, cn⟩).toArray⟩ : ByteArray) = s := by apply WideShapes.bytes_inj; simp [heq]
                    rw [hst] at cf
                    have HRy := Lib.hid hRy
                    clear hst heq hRc hRy hok
                    go_wp2_with fail
                    refine cf.mono ?_
                    rintro e w8 ⟨rfl, hb8⟩
                    have hown5 := own_below hown4 hb8
                    have hb9 := hb4.trans (hb8.mono hs4)
                    have hbx9 := heap_below hbx4 hb8
                    have hbf9 := hbfin.trans (hb8.mono (by omega))
                    obtain ⟨gq', oq', eq1, -, x0, x1, x2, x3, x4, x5⟩ := cell6 (OwnS.ints hown5).1.bound (j := 0) (by simp) rfl
                    injection eq1 with eq1
                    injection eq1 with eq1 eq2
                    subst eq1 eq2
                    simp only [Nat.zero_mul, Nat.add_zero] at x0 x1 x2 x3 x4 x5
                    obtain ⟨y0, z0⟩ := blk (i := 0) hbx9 rfl
                    obtain ⟨y1, z1⟩ := blk (i := 1) hbx9 rfl
                    obtain ⟨y2, z2⟩ := blk (i := 2) hbx9 rfl
                    obtain ⟨y3, z3⟩ := blk (i := 3) hbx9 rfl
                    obtain ⟨y4, z4⟩ := blk (i := 4) hbx9 rfl
                    obtain ⟨y5, z5⟩ := blk (i := 5) hbx9 rfl
                    clear cf hb8 hown4 hown5 hb4 hbx4
                    go_wp2_with fail
                    rw [HRy.out]
                    (try simp only [Exit.inBlock, Exit.then])
                    refine bodyPost_ret (results_cell_tmp_row (P := Tryz.prog) rfl _ _ _ w.heap.size 34 _ (0, 0) _ rfl rfl (heap_set (heap_set (heap_set (heap_set (heap_set (heap_set hbx9 _) _) _) _) _) _) Tryz.underlying34 rfl (by kernel_rfl)) rfl ?_
                    exact ⟨rfl, (((((hbf9.setCell (Nat.le_refl _) _).setCell (Nat.le_refl _) _).setCell (Nat.le_refl _) _).setCell (Nat.le_refl _) _).setCell (Nat.le_refl _) _).setCell (Nat.le_refl _) _⟩
                  · have hRy : R = none := by rw [hRc]; exact pick_not fun h => heq h.2
                    obtain ⟨n1, n2⟩ := str_ne (a := ⟨(fmtL ⟨co, cd, ca, cb, c3, cn⟩).toArray⟩) (b := s) (by simpa using heq)
                    generalize (⟨(fmtL ⟨co, cd, ca, cb, c3, cn⟩).toArray⟩ : ByteArray) = tt at cf n1 n2
                    have HRy := Lib.hid hRy
                    clear heq hRc hRy hok
                    go_wp2_with fail
                    refine cf.mono ?_
                    rintro e w8 ⟨rfl, hb8⟩
                    have hown5 := own_below hown4 hb8
                    have hb9 := hb4.trans (hb8.mono hs4)
                    clear cf hb8 hown4 hb4 hbx4 x0 x1 x2 x3 x4 x5
                    go_wp2_with fail
                    go_roundw
                    case rel => first | exact ⟨1, by omega, by go_num, (show 0 < 1 → R = none from fun _ => HRy.out), hown5, hb9⟩ | exact ⟨_, _, _, _, _, _, _, _, _, _, _, _, _, _, _, _, _, _, _, _, _, _, _, _, _, _, _, _, ⟨1, by omega, rfl, (show 0 < 1 → R = none from fun _ => HRy.out), hown5, hb9⟩, rfl⟩
                    case measure => simp [intOf]
                · have cf := spec_FormatStmt_no co cd ca cb c3 cn wr hok
                  have hRy : R = none := by rw [hRc]; exact pick_not fun h => hok h.1
                  have HRy := Lib.hid hRy
                  clear hRc hRy hok
                  go_wp2_with fail
                  refine cf.mono ?_
                  rintro e w8 ⟨rfl, hb8⟩
                  have hown5 := own_below hown4 hb8
                  have hb9 := hb4.trans (hb8.mono hs4)
                  clear cf hb8 hown4 hb4 hbx4 x0 x1 x2 x3 x4 x5
                  go_wp2_with fail
                  go_roundw
                  case rel => first | exact ⟨1, by omega, by go_num, (show 0 < 1 → R = none from fun _ => HRy.out), hown5, hb9⟩ | exact ⟨_, _, _, _, _, _, _, _, _, _, _, _, _, _, _, _, _, _, _, _, _, _, _, _, _, _, _, _, ⟨1, by omega, rfl, (show 0 < 1 → R = none from fun _ => HRy.out), hown5, hb9⟩, rfl⟩
                  case measure => simp [intOf]
              · obtain rfl : k = q := by omega
                have hRn : R = none := by
                  by_cases h0 : k = 0
                  · exact HRn2.out (List.eq_nil_of_length_eq_zero (by rw [HLq.out]; exact h0))
                  · exact hk0.out (by omega)
                clear hk0 hown4
                obtain ⟨y0, z0⟩ := blk (i := 0) hbx4 rfl
                obtain ⟨y1, z1⟩ := blk (i := 1) hbx4 rfl
                obtain ⟨y2, z2⟩ := blk (i := 2) hbx4 rfl
                obtain ⟨y3, z3⟩ := blk (i := 3) hbx4 rfl
                obtain ⟨y4, z4⟩ := blk (i := 4) hbx4 rfl
                obtain ⟨y5, z5⟩ := blk (i := 5) hbx4 rfl
                go_wp2_with fail
                rw [hRn, optV_none]
                (try simp only [Exit.inBlock, Exit.then])
                refine bodyPost_ret (results_cell_tmp_row (P := Tryz.prog) rfl _ _ _ w.heap.size 34 _ (0, 0) _ rfl rfl (heap_set (heap_set (heap_set (heap_set (heap_set (heap_set hbx4 _) _) _) _) _) _) Tryz.underlying34 rfl (by kernel_rfl)) rfl ?_
                exact ⟨rfl, (((((hbfin.setCell (Nat.le_refl _) _).setCell (Nat.le_refl _) _).setCell (Nat.le_refl _) _).setCell (Nat.le_refl _) _).setCell (Nat.le_refl _) _).setCell (Nat.le_refl _) _⟩
end Go.Proofs.YtjclhlicginekaaGreatDoor
