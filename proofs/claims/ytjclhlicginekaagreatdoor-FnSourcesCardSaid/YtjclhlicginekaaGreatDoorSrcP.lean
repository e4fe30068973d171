/- The program's ParseStmt. -/
import Derived.Test.YtjclhlicginekaaGreatDoorProg
import Derived.Test.YtjclhlicginekaaGreatDoorSrcR
import Derived.Test.YtjclhlicginekaaGreatDoorSrcJ
namespace Go.Proofs.YtjclhlicginekaaGreatDoor
open Go Go.RowKit Go.Maps
theorem getD_mem (F : List (List UInt8)) (n j : Nat) (h : ∀ f, f ∈ F → f.length ≤ n) : (F.getD j []).length ≤ n := by
  rw [List.getD_eq_getElem?_getD]
  cases e : F[j]? with
  | none => simp
  | some f => exact h f (List.mem_of_getElem? e)
theorem split_field (l : List UInt8) (j : Nat) : ((splitF l).getD j []).length ≤ 600 := by
  by_cases h : splitOK l
  · rw [(splitF_yes h).1]
    exact getD_mem _ _ _ fun f hf => (fields_good h f hf).2
  · rw [(splitF_no h).1]; simp
theorem impl_readFields (B : Nat) (s : ByteArray) (hm : s.size ≤ 1048576) (w : World) (hf : Forms B w) (ht : TabOk w) (he : ErrOk w) (hz : 8 ≤ w.heap.size) :
    Calls Tryz.prog 41 #[.map (some (B + 1)), .string s] w fun e w' => e = .returned (optV (readI (splitF s.data.toList))) ∧ Below w.heap.size w w' := by
  cases hb : splitB s.data.toList with
  | false =>
    have hF : splitF s.data.toList = [] := by
      by_cases h : splitOK s.data.toList
      · rw [(splitF_yes h).2] at hb; cases hb
      · exact (splitF_no h).1
    rw [hF]
    exact readFields_bad B s hm w hb
  | true =>
    by_cases hF : splitF s.data.toList = []
    · have c := readFields_nil B s hm w hb hF
      rw [hF]; exact c
    · have hsm := split_field s.data.toList
      cases hw : opOf ((splitF s.data.toList).getD 0 []) with
      | none =>
        have c := readFields_word B s hm w hf hb hF hw (hsm 0)
        have e : readI (splitF s.data.toList) = none := by
          generalize splitF s.data.toList = F at hF hw
          cases F with
          | nil => exact absurd rfl hF
          | cons f r =>
            have hw' : opOf f = none := hw
            simp only [readI, hw']
        rw [e]; exact c
      | some u =>
        obtain ⟨u1, u2, u3⟩ := opOf_some hw
        by_cases hl : (splitF s.data.toList).length = 1 + (argsN u).length
        · have c := readFields_go B u u1 u2 s hm w hf ht he hz hb hF u3.symm hl hsm
          have e : readI (splitF s.data.toList) = readA (argsN u) (splitF s.data.toList).tail ⟨u, 0, 0, 0, 0, 0⟩ := by
            generalize splitF s.data.toList = F at hF hw hl
            cases F with
            | nil => exact absurd rfl hF
            | cons f r =>
              have hw' : opOf f = some u := hw
              simp only [readI, hw']
              rw [if_pos hl]; rfl
          rw [e]; exact c
        · have c := readFields_len B u u1 u2 s hm w hf hb hF u3.symm hl
          have e : readI (splitF s.data.toList) = none := by
            generalize splitF s.data.toList = F at hF hw hl
            cases F with
            | nil => exact absurd rfl hF
            | cons f r =>
              have hw' : opOf f = some u := hw
              simp only [readI, hw']
              rw [if_neg hl]
          rw [e]; exact c
set_option maxRecDepth 100000 in
set_option maxHeartbeats 1000000 in
theorem parseWith_none (B : Nat) (s : ByteArray) (w : World) (hf : Forms B w) (ht : TabOk w) (he : ErrOk w) (hz : 8 ≤ w.heap.size) (c : ∀ w, Forms B w → TabOk w → ErrOk w → 8 ≤ w.heap.size → Calls Tryz.prog 41 #[.map (some (B + 1)), .string s] w fun e w' => e = .returned (.tuple #[.agg #[.int .i64 0, .int .i64 0, .int .i64 0, .int .i64 0, .int .i64 0, .int .i64 0], .bool false]) ∧ Below w.heap.size w w') :
    Calls Tryz.prog 26 #[.map (some (B + 1)), .string s] w fun e w' => e = .returned (.tuple #[.agg #[.int .i64 0, .int .i64 0, .int .i64 0, .int .i64 0, .int .i64 0, .int .i64 0], .bool false]) ∧ Below w.heap.size w w' := by
  have hbox := heap_alloc_new w (.cells #[.int .i64 0, .int .i64 0, .int .i64 0, .int .i64 0, .int .i64 0, .int .i64 0] 34)
  have hba := below_alloc w (.cells #[.int .i64 0, .int .i64 0, .int .i64 0, .int .i64 0, .int .i64 0, .int .i64 0] 34)
  go_enter Tryz.func26, Tryz.ntmps26
  go_wp2_with fail
  refine (c _ (hf.below hba) (tab_at ht hba hz) (he.below hba hz) (top_at hz hba)).mono ?_
  rintro e w1 ⟨rfl, hb1⟩
  have hb0 : Below w.heap.size w w1 := hba.trans (hb1.mono (by simp))
  have hbx := heap_below hbox hb1
  have hbx2 := heap_alloc hbx (.cells #[.int .i64 0, .int .i64 0, .int .i64 0, .int .i64 0, .int .i64 0, .int .i64 0] 34)
  have hst2 := heap_alloc_new w1 (.cells #[.int .i64 0, .int .i64 0, .int .i64 0, .int .i64 0, .int .i64 0, .int .i64 0] 34)
  have hb2 := low_alloc hb0 (.cells #[.int .i64 0, .int .i64 0, .int .i64 0, .int .i64 0, .int .i64 0, .int .i64 0] 34)
  have hsz2 := World.size_alloc w1 (.cells #[.int .i64 0, .int .i64 0, .int .i64 0, .int .i64 0, .int .i64 0, .int .i64 0] 34)
  have hlt := heap_lt hbx
  clear c hb1 hbox hbx hba
  go_upto_region 2 with (fail)
  generalize hg0 : w1.heap.size = h0 at *
  generalize hw2 : w1.alloc (.cells #[.int .i64 0, .int .i64 0, .int .i64 0, .int .i64 0, .int .i64 0, .int .i64 0] 34) = w2 at *
  clear hw2 hg0
  clear hst2
  obtain ⟨v0, f0⟩ := blk (i := 0) hbx2 rfl
  obtain ⟨v1, f1⟩ := blk (i := 1) hbx2 rfl
  obtain ⟨v2, f2⟩ := blk (i := 2) hbx2 rfl
  obtain ⟨v3, f3⟩ := blk (i := 3) hbx2 rfl
  obtain ⟨v4, f4⟩ := blk (i := 4) hbx2 rfl
  obtain ⟨v5, f5⟩ := blk (i := 5) hbx2 rfl
  go_wp2_with fail
  (try simp only [Exit.inBlock, Exit.then])
  refine bodyPost_ret (results_cell_tmp_row (P := Tryz.prog) rfl _ _ _ w.heap.size 34 _ (0, 0) _ rfl rfl (heap_set (heap_set (heap_set (heap_set (heap_set (heap_set hbx2 _) _) _) _) _) _) Tryz.underlying34 rfl (by kernel_rfl)) rfl ?_
  exact ⟨rfl, (((((hb2.setCell (Nat.le_refl _) _).setCell (Nat.le_refl _) _).setCell (Nat.le_refl _) _).setCell (Nat.le_refl _) _).setCell (Nat.le_refl _) _).setCell (Nat.le_refl _) _⟩
set_option maxRecDepth 100000 in
set_option maxHeartbeats 1000000 in
theorem parseWith_bad (B : Nat) (s : ByteArray) (so sd sa sb sc sn : Int) (w : World) (hf : Forms B w) (ht : TabOk w) (he : ErrOk w) (hz : 8 ≤ w.heap.size) (hk : ¬ okI so sd sa sb sc sn) (c : ∀ w, Forms B w → TabOk w → ErrOk w → 8 ≤ w.heap.size → Calls Tryz.prog 41 #[.map (some (B + 1)), .string s] w fun e w' => e = .returned (.tuple #[.agg #[.int .i64 so, .int .i64 sd, .int .i64 sa, .int .i64 sb, .int .i64 sc, .int .i64 sn], .bool true]) ∧ Below w.heap.size w w') :
    Calls Tryz.prog 26 #[.map (some (B + 1)), .string s] w fun e w' => e = .returned (.tuple #[.agg #[.int .i64 0, .int .i64 0, .int .i64 0, .int .i64 0, .int .i64 0, .int .i64 0], .bool false]) ∧ Below w.heap.size w w' := by
  have ok := impl_StmtOk so sd sa sb sc sn
  rw [decide_eq_false hk] at ok
  clear hk
  have hbox := heap_alloc_new w (.cells #[.int .i64 0, .int .i64 0, .int .i64 0, .int .i64 0, .int .i64 0, .int .i64 0] 34)
  have hba := below_alloc w (.cells #[.int .i64 0, .int .i64 0, .int .i64 0, .int .i64 0, .int .i64 0, .int .i64 0] 34)
  go_enter Tryz.func26, Tryz.ntmps26
  go_wp2_with fail
  refine (c _ (hf.below hba) (tab_at ht hba hz) (he.below hba hz) (top_at hz hba)).mono ?_
  rintro e w1 ⟨rfl, hb1⟩
  have hb0 : Below w.heap.size w w1 := hba.trans (hb1.mono (by simp))
  have hbx := heap_below hbox hb1
  have hbx2 := heap_alloc hbx (.cells #[.int .i64 so, .int .i64 sd, .int .i64 sa, .int .i64 sb, .int .i64 sc, .int .i64 sn] 34)
  have hst2 := heap_alloc_new w1 (.cells #[.int .i64 so, .int .i64 sd, .int .i64 sa, .int .i64 sb, .int .i64 sc, .int .i64 sn] 34)
  have hb2 := low_alloc hb0 (.cells #[.int .i64 so, .int .i64 sd, .int .i64 sa, .int .i64 sb, .int .i64 sc, .int .i64 sn] 34)
  have hsz2 := World.size_alloc w1 (.cells #[.int .i64 so, .int .i64 sd, .int .i64 sa, .int .i64 sb, .int .i64 sc, .int .i64 sn] 34)
  have hlt := heap_lt hbx
  clear c hb1 hbox hbx hba
  go_upto_region 2 with (fail)
  generalize hg0 : w1.heap.size = h0 at *
  generalize hw2 : w1.alloc (.cells #[.int .i64 so, .int .i64 sd, .int .i64 sa, .int .i64 sb, .int .i64 sc, .int .i64 sn] 34) = w2 at *
  clear hw2 hg0
  obtain ⟨c0, d0⟩ := blk (i := 0) hst2 rfl
  obtain ⟨c1, d1⟩ := blk (i := 1) hst2 rfl
  obtain ⟨c2, d2⟩ := blk (i := 2) hst2 rfl
  obtain ⟨c3, d3⟩ := blk (i := 3) hst2 rfl
  obtain ⟨c4, d4⟩ := blk (i := 4) hst2 rfl
  obtain ⟨c5, d5⟩ := blk (i := 5) hst2 rfl
  go_wp2_with fail
  refine (ok _).mono ?_
  rintro e w3 ⟨rfl, hb3⟩
  have hb4 := hb2.trans (hb3.mono hb2.size)
  have hbx4 := heap_below hbx2 hb3
  obtain ⟨v0, f0⟩ := blk (i := 0) hbx4 rfl
  obtain ⟨v1, f1⟩ := blk (i := 1) hbx4 rfl
  obtain ⟨v2, f2⟩ := blk (i := 2) hbx4 rfl
  obtain ⟨v3, f3⟩ := blk (i := 3) hbx4 rfl
  obtain ⟨v4, f4⟩ := blk (i := 4) hbx4 rfl
  obtain ⟨v5, f5⟩ := blk (i := 5) hbx4 rfl
  clear ok hb3 hst2
  go_wp2_with fail
  (try simp only [Exit.inBlock, Exit.then])
  refine bodyPost_ret (results_cell_tmp_row (P := Tryz.prog) rfl _ _ _ w.heap.size 34 _ (0, 0) _ rfl rfl (heap_set (heap_set (heap_set (heap_set (heap_set (heap_set hbx4 _) _) _) _) _) _) Tryz.underlying34 rfl (by kernel_rfl)) rfl ?_
  exact ⟨rfl, (((((hb4.setCell (Nat.le_refl _) _).setCell (Nat.le_refl _) _).setCell (Nat.le_refl _) _).setCell (Nat.le_refl _) _).setCell (Nat.le_refl _) _).setCell (Nat.le_refl _) _⟩
set_option maxRecDepth 100000 in
set_option maxHeartbeats 1000000 in
theorem parseWith_ne (B : Nat) (s : ByteArray) (so sd sa sb sc sn : Int) (w : World) (hf : Forms B w) (ht : TabOk w) (he : ErrOk w) (hz : 8 ≤ w.heap.size) (hk : okI so sd sa sb sc sn) (hne : fmtL ⟨so, sd, sa, sb, sc, sn⟩ ≠ s.data.toList) (c : ∀ w, Forms B w → TabOk w → ErrOk w → 8 ≤ w.heap.size → Calls Tryz.prog 41 #[.map (some (B + 1)), .string s] w fun e w' => e = .returned (.tuple #[.agg #[.int .i64 so, .int .i64 sd, .int .i64 sa, .int .i64 sb, .int .i64 sc, .int .i64 sn], .bool true]) ∧ Below w.heap.size w w') :
    Calls Tryz.prog 26 #[.map (some (B + 1)), .string s] w fun e w' => e = .returned (.tuple #[.agg #[.int .i64 0, .int .i64 0, .int .i64 0, .int .i64 0, .int .i64 0, .int .i64 0], .bool false]) ∧ Below w.heap.size w w' := by
  have ok := impl_StmtOk so sd sa sb sc sn
  rw [decide_eq_true hk] at ok
  have cf := fun w h1 h2 h3 => formatWith_any B so sd sa sb sc sn w hk h1 h2 h3
  have hn := str_ne (a := ⟨(fmtL ⟨so, sd, sa, sb, sc, sn⟩).toArray⟩) (b := s) (by simpa using hne)
  generalize (⟨(fmtL ⟨so, sd, sa, sb, sc, sn⟩).toArray⟩ : ByteArray) = t at cf hn
  obtain ⟨n1, n2⟩ := hn
  clear hk hne
  have hbox := heap_alloc_new w (.cells #[.int .i64 0, .int .i64 0, .int .i64 0, .int .i64 0, .int .i64 0, .int .i64 0] 34)
  have hba := below_alloc w (.cells #[.int .i64 0, .int .i64 0, .int .i64 0, .int .i64 0, .int .i64 0, .int .i64 0] 34)
  go_enter Tryz.func26, Tryz.ntmps26
  go_wp2_with fail
  refine (c _ (hf.below hba) (tab_at ht hba hz) (he.below hba hz) (top_at hz hba)).mono ?_
  rintro e w1 ⟨rfl, hb1⟩
  have hb0 : Below w.heap.size w w1 := hba.trans (hb1.mono (by simp))
  have hbx := heap_below hbox hb1
  have hbx2 := heap_alloc hbx (.cells #[.int .i64 so, .int .i64 sd, .int .i64 sa, .int .i64 sb, .int .i64 sc, .int .i64 sn] 34)
  have hst2 := heap_alloc_new w1 (.cells #[.int .i64 so, .int .i64 sd, .int .i64 sa, .int .i64 sb, .int .i64 sc, .int .i64 sn] 34)
  have hb2 := low_alloc hb0 (.cells #[.int .i64 so, .int .i64 sd, .int .i64 sa, .int .i64 sb, .int .i64 sc, .int .i64 sn] 34)
  have hsz2 := World.size_alloc w1 (.cells #[.int .i64 so, .int .i64 sd, .int .i64 sa, .int .i64 sb, .int .i64 sc, .int .i64 sn] 34)
  have hlt := heap_lt hbx
  clear c hb1 hbox hbx hba
  go_upto_region 2 with (fail)
  generalize hg0 : w1.heap.size = h0 at *
  generalize hw2 : w1.alloc (.cells #[.int .i64 so, .int .i64 sd, .int .i64 sa, .int .i64 sb, .int .i64 sc, .int .i64 sn] 34) = w2 at *
  clear hw2 hg0
  obtain ⟨c0, d0⟩ := blk (i := 0) hst2 rfl
  obtain ⟨c1, d1⟩ := blk (i := 1) hst2 rfl
  obtain ⟨c2, d2⟩ := blk (i := 2) hst2 rfl
  obtain ⟨c3, d3⟩ := blk (i := 3) hst2 rfl
  obtain ⟨c4, d4⟩ := blk (i := 4) hst2 rfl
  obtain ⟨c5, d5⟩ := blk (i := 5) hst2 rfl
  go_wp2_with fail
  refine (ok _).mono ?_
  rintro e w3 ⟨rfl, hb3⟩
  have hb4 := hb2.trans (hb3.mono hb2.size)
  have hbx4 := heap_below hbx2 hb3
  have hst4 := heap_below hst2 hb3
  clear c0 d0 c1 d1 c2 d2 c3 d3 c4 d4 c5 d5
  obtain ⟨c0, d0⟩ := blk (i := 0) hst4 rfl
  obtain ⟨c1, d1⟩ := blk (i := 1) hst4 rfl
  obtain ⟨c2, d2⟩ := blk (i := 2) hst4 rfl
  obtain ⟨c3, d3⟩ := blk (i := 3) hst4 rfl
  obtain ⟨c4, d4⟩ := blk (i := 4) hst4 rfl
  obtain ⟨c5, d5⟩ := blk (i := 5) hst4 rfl
  clear ok hb3 hst2 hbx2
  go_wp2_with fail
  refine (cf _ (hf.below hb4) (tab_at ht hb4 hz) (top_at hz hb4)).mono ?_
  rintro e w5 ⟨rfl, hb5⟩
  have hb6 := hb4.trans (hb5.mono hb4.size)
  have hbx6 := heap_below hbx4 hb5
  obtain ⟨v0, f0⟩ := blk (i := 0) hbx6 rfl
  obtain ⟨v1, f1⟩ := blk (i := 1) hbx6 rfl
  obtain ⟨v2, f2⟩ := blk (i := 2) hbx6 rfl
  obtain ⟨v3, f3⟩ := blk (i := 3) hbx6 rfl
  obtain ⟨v4, f4⟩ := blk (i := 4) hbx6 rfl
  obtain ⟨v5, f5⟩ := blk (i := 5) hbx6 rfl
  clear cf hb5 hst4 hbx4
  go_wp2_with fail
  (try simp only [Exit.inBlock, Exit.then])
  refine bodyPost_ret (results_cell_tmp_row (P := Tryz.prog) rfl _ _ _ w.heap.size 34 _ (0, 0) _ rfl rfl (heap_set (heap_set (heap_set (heap_set (heap_set (heap_set hbx6 _) _) _) _) _) _) Tryz.underlying34 rfl (by kernel_rfl)) rfl ?_
  exact ⟨rfl, (((((hb6.setCell (Nat.le_refl _) _).setCell (Nat.le_refl _) _).setCell (Nat.le_refl _) _).setCell (Nat.le_refl _) _).setCell (Nat.le_refl _) _).setCell (Nat.le_refl _) _⟩
set_option maxRecDepth 100000 in
set_option maxHeartbeats 1000000 in
theorem parseWith_yes (B : Nat) (s : ByteArray) (so sd sa sb sc sn : Int) (w : World) (hf : Forms B w) (ht : TabOk w) (he : ErrOk w) (hz : 8 ≤ w.heap.size) (hk : okI so sd sa sb sc sn) (heq : fmtL ⟨so, sd, sa, sb, sc, sn⟩ = s.data.toList) (c : ∀ w, Forms B w → TabOk w → ErrOk w → 8 ≤ w.heap.size → Calls Tryz.prog 41 #[.map (some (B + 1)), .string s] w fun e w' => e = .returned (.tuple #[.agg #[.int .i64 so, .int .i64 sd, .int .i64 sa, .int .i64 sb, .int .i64 sc, .int .i64 sn], .bool true]) ∧ Below w.heap.size w w') :
    Calls Tryz.prog 26 #[.map (some (B + 1)), .string s] w fun e w' => e = .returned (.tuple #[.agg #[.int .i64 so, .int .i64 sd, .int .i64 sa, .int .i64 sb, .int .i64 sc, .int .i64 sn], .bool true]) ∧ Below w.heap.size w w' := by
  have ok := impl_StmtOk so sd sa sb sc sn
  rw [decide_eq_true hk] at ok
  have cf := fun w h1 h2 h3 => formatWith_any B so sd sa sb sc sn w hk h1 h2 h3
  have hn : (⟨(fmtL ⟨so, sd, sa, sb, sc, sn⟩).toArray⟩ : ByteArray) = s := by apply WideShapes.bytes_inj; simp [heq]
  rw [hn] at cf
  clear hk heq hn
  have hbox := heap_alloc_new w (.cells #[.int .i64 0, .int .i64 0, .int .i64 0, .int .i64 0, .int .i64 0, .int .i64 0] 34)
  have hba := below_alloc w (.cells #[.int .i64 0, .int .i64 0, .int .i64 0, .int .i64 0, .int .i64 0, .int .i64 0] 34)
  go_enter Tryz.func26, Tryz.ntmps26
  go_wp2_with fail
  refine (c _ (hf.below hba) (tab_at ht hba hz) (he.below hba hz) (top_at hz hba)).mono ?_
  rintro e w1 ⟨rfl, hb1⟩
  have hb0 : Below w.heap.size w w1 := hba.trans (hb1.mono (by simp))
  have hbx := heap_below hbox hb1
  have hbx2 := heap_alloc hbx (.cells #[.int .i64 so, .int .i64 sd, .int .i64 sa, .int .i64 sb, .int .i64 sc, .int .i64 sn] 34)
  have hst2 := heap_alloc_new w1 (.cells #[.int .i64 so, .int .i64 sd, .int .i64 sa, .int .i64 sb, .int .i64 sc, .int .i64 sn] 34)
  have hb2 := low_alloc hb0 (.cells #[.int .i64 so, .int .i64 sd, .int .i64 sa, .int .i64 sb, .int .i64 sc, .int .i64 sn] 34)
  have hsz2 := World.size_alloc w1 (.cells #[.int .i64 so, .int .i64 sd, .int .i64 sa, .int .i64 sb, .int .i64 sc, .int .i64 sn] 34)
  have hlt := heap_lt hbx
  clear c hb1 hbox hbx hba
  go_upto_region 2 with (fail)
  generalize hg0 : w1.heap.size = h0 at *
  generalize hw2 : w1.alloc (.cells #[.int .i64 so, .int .i64 sd, .int .i64 sa, .int .i64 sb, .int .i64 sc, .int .i64 sn] 34) = w2 at *
  clear hw2 hg0
  obtain ⟨c0, d0⟩ := blk (i := 0) hst2 rfl
  obtain ⟨c1, d1⟩ := blk (i := 1) hst2 rfl
  obtain ⟨c2, d2⟩ := blk (i := 2) hst2 rfl
  obtain ⟨c3, d3⟩ := blk (i := 3) hst2 rfl
  obtain ⟨c4, d4⟩ := blk (i := 4) hst2 rfl
  obtain ⟨c5, d5⟩ := blk (i := 5) hst2 rfl
  go_wp2_with fail
  refine (ok _).mono ?_
  rintro e w3 ⟨rfl, hb3⟩
  have hb4 := hb2.trans (hb3.mono hb2.size)
  have hbx4 := heap_below hbx2 hb3
  have hst4 := heap_below hst2 hb3
  clear c0 d0 c1 d1 c2 d2 c3 d3 c4 d4 c5 d5
  obtain ⟨c0, d0⟩ := blk (i := 0) hst4 rfl
  obtain ⟨c1, d1⟩ := blk (i := 1) hst4 rfl
  obtain ⟨c2, d2⟩ := blk (i := 2) hst4 rfl
  obtain ⟨c3, d3⟩ := blk (i := 3) hst4 rfl
  obtain ⟨c4, d4⟩ := blk (i := 4) hst4 rfl
  obtain ⟨c5, d5⟩ := blk (i := 5) hst4 rfl
  clear ok hb3 hst2 hbx2
  go_wp2_with fail
  refine (cf _ (hf.below hb4) (tab_at ht hb4 hz) (top_at hz hb4)).mono ?_
  rintro e w5 ⟨rfl, hb5⟩
  have hb6 := hb4.trans (hb5.mono hb4.size)
  have hbx6 := heap_below hbx4 hb5
  have hst6 := heap_below hst4 hb5
  clear c0 d0 c1 d1 c2 d2 c3 d3 c4 d4 c5 d5
  obtain ⟨c0, d0⟩ := blk (i := 0) hst6 rfl
  obtain ⟨c1, d1⟩ := blk (i := 1) hst6 rfl
  obtain ⟨c2, d2⟩ := blk (i := 2) hst6 rfl
  obtain ⟨c3, d3⟩ := blk (i := 3) hst6 rfl
  obtain ⟨c4, d4⟩ := blk (i := 4) hst6 rfl
  obtain ⟨c5, d5⟩ := blk (i := 5) hst6 rfl
  obtain ⟨v0, f0⟩ := blk (i := 0) hbx6 rfl
  obtain ⟨v1, f1⟩ := blk (i := 1) hbx6 rfl
  obtain ⟨v2, f2⟩ := blk (i := 2) hbx6 rfl
  obtain ⟨v3, f3⟩ := blk (i := 3) hbx6 rfl
  obtain ⟨v4, f4⟩ := blk (i := 4) hbx6 rfl
  obtain ⟨v5, f5⟩ := blk (i := 5) hbx6 rfl
  clear cf hb5 hst4 hbx4
  go_wp2_with fail
  (try simp only [Exit.inBlock, Exit.then])
  refine bodyPost_ret (results_cell_tmp_row (P := Tryz.prog) rfl _ _ _ w.heap.size 34 _ (0, 0) _ rfl rfl (heap_set (heap_set (heap_set (heap_set (heap_set (heap_set hbx6 _) _) _) _) _) _) Tryz.underlying34 rfl (by kernel_rfl)) rfl ?_
  exact ⟨rfl, (((((hb6.setCell (Nat.le_refl _) _).setCell (Nat.le_refl _) _).setCell (Nat.le_refl _) _).setCell (Nat.le_refl _) _).setCell (Nat.le_refl _) _).setCell (Nat.le_refl _) _⟩
theorem impl_parseWith (B : Nat) (s : ByteArray) (hm : s.size ≤ 1048576) (w : World) (hf : Forms B w) (ht : TabOk w) (he : ErrOk w) (hz : 8 ≤ w.heap.size) :
    Calls Tryz.prog 26 #[.map (some (B + 1)), .string s] w fun e w' => e = .returned (optV (parseL s.data.toList)) ∧ Below w.heap.size w w' := by
  have c := fun w h1 h2 h3 h4 => impl_readFields B s hm w h1 h2 h3 h4
  rw [← read_line]
  cases ho : readI (splitF s.data.toList) with
  | none =>
    rw [ho] at c
    exact parseWith_none B s w hf ht he hz c
  | some st =>
    rw [ho] at c
    obtain ⟨so, sd, sa, sb, sc, sn⟩ := st
    by_cases hk : okI so sd sa sb sc sn
    · by_cases hq : fmtL ⟨so, sd, sa, sb, sc, sn⟩ = s.data.toList
      · rw [pick_some (s := ⟨so, sd, sa, sb, sc, sn⟩) hk hq]
        exact parseWith_yes B s so sd sa sb sc sn w hf ht he hz hk hq c
      · rw [pick_not fun h => hq h.2]
        exact parseWith_ne B s so sd sa sb sc sn w hf ht he hz hk hq c
    · rw [pick_not (s := ⟨so, sd, sa, sb, sc, sn⟩) fun h => hk h.1]
      exact parseWith_bad B s so sd sa sb sc sn w hf ht he hz hk c
theorem optV_form (o : Option St) : ∃ so sd sa sb sc sn b, optV o = .tuple #[.agg #[.int .i64 so, .int .i64 sd, .int .i64 sa, .int .i64 sb, .int .i64 sc, .int .i64 sn], .bool b] := by
  cases o with
  | none => exact ⟨0, 0, 0, 0, 0, 0, false, rfl⟩
  | some s => exact ⟨_, _, _, _, _, _, true, rfl⟩
set_option maxRecDepth 100000 in
set_option maxHeartbeats 1000000 in
theorem impl_ParseStmt (s : ByteArray) (hm : s.size ≤ 1048576) (w : World) (ht : TabOk w) (he : ErrOk w) (hz : 8 ≤ w.heap.size) :
    Calls Tryz.prog 11 #[.string s] w fun e w' => e = .returned (optV (parseL s.data.toList)) ∧ Below w.heap.size w w' := by
  have c := fun B w h1 h2 h3 h4 => impl_parseWith B s hm w h1 h2 h3 h4
  obtain ⟨so, sd, sa, sb, sc, sn, b, ho⟩ := optV_form (parseL s.data.toList)
  rw [ho] at c ⊢
  clear ho
  have hbox := heap_alloc_new w (.cells #[.int .i64 0, .int .i64 0, .int .i64 0, .int .i64 0, .int .i64 0, .int .i64 0] 34)
  have hba := below_alloc w (.cells #[.int .i64 0, .int .i64 0, .int .i64 0, .int .i64 0, .int .i64 0, .int .i64 0] 34)
  go_enter Tryz.func11, Tryz.ntmps11
  go_wp2_with fail
  refine (sourceForms_any _).mono ?_
  rintro e w1 ⟨rfl, hf, hb1⟩
  have hb0 : Below w.heap.size w w1 := hba.trans (hb1.mono (by simp))
  have hbx := heap_below hbox hb1
  clear hbox hb1 hba
  generalize (w.alloc (.cells #[.int .i64 0, .int .i64 0, .int .i64 0, .int .i64 0, .int .i64 0, .int .i64 0] 34)).heap.size = B at hf ⊢
  go_wp2_with fail
  refine (c B w1 hf (tab_at ht hb0 hz) (he.below hb0 hz) (top_at hz hb0)).mono ?_
  rintro e w2 ⟨rfl, hb2⟩
  have hb3 := hb0.trans (hb2.mono hb0.size)
  have hbx2 := heap_below hbx hb2
  obtain ⟨v0, f0⟩ := blk (i := 0) hbx2 rfl
  obtain ⟨v1, f1⟩ := blk (i := 1) hbx2 rfl
  obtain ⟨v2, f2⟩ := blk (i := 2) hbx2 rfl
  obtain ⟨v3, f3⟩ := blk (i := 3) hbx2 rfl
  obtain ⟨v4, f4⟩ := blk (i := 4) hbx2 rfl
  obtain ⟨v5, f5⟩ := blk (i := 5) hbx2 rfl
  clear c hb2 hbx hf
  go_wp2_with fail
  (try simp only [Exit.inBlock, Exit.then])
  refine bodyPost_ret (results_cell_tmp_row (P := Tryz.prog) rfl _ _ _ w.heap.size 34 _ (0, 0) _ rfl rfl (heap_set (heap_set (heap_set (heap_set (heap_set (heap_set hbx2 _) _) _) _) _) _) Tryz.underlying34 rfl (by kernel_rfl)) rfl ?_
  exact ⟨rfl, (((((hb3.setCell (Nat.le_refl _) _).setCell (Nat.le_refl _) _).setCell (Nat.le_refl _) _).setCell (Nat.le_refl _) _).setCell (Nat.le_refl _) _).setCell (Nat.le_refl _) _⟩
end Go.Proofs.YtjclhlicginekaaGreatDoor
