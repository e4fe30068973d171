/- Compilation: the table of builders, and the compilation before the first statement: the program's. No condition. -/
import Derived.Test.YtjfmcdfgccdmpaaGreatProg
import Derived.Test.YtjfmcdfgccdmpaaGreatCmA
import Derived.Laws.EntriesVeiled
import Derived.Deep.RegionHeld3
namespace Go.Proofs.YtjfmcdfgccdmpaaGreat
open Go Go.RowKit
theorem impl_wordBuilders (w : World) : Calls Tryz.prog 58 #[] w fun e w' => e = .returned (.agg #[.nilFunc, .nilFunc, .nilFunc, .func (.func 75) #[] #[], .func (.func 76) #[] #[], .func (.func 77) #[] #[], .func (.func 78) #[] #[], .func (.func 79) #[] #[], .func (.func 80) #[] #[], .func (.func 81) #[] #[]]) ∧ Below w.heap.size w w' := by
  go_enter Tryz.func58, Tryz.ntmps58
  go_wp2_with fail
  refine bodyPost_ret (results_cell_row (P := Tryz.prog) rfl _ _ w.heap.size 118 _ (0, 0) _ rfl (heap_alloc_new w _) Tryz.underlying118 rfl (by kernel_rfl)) rfl ?_
  exact ⟨rfl, below_alloc w _⟩
theorem wb_at3 (w : World) : (Instr.index 118 (.agg #[.nilFunc, .nilFunc, .nilFunc, .func (.func 75) #[] #[], .func (.func 76) #[] #[], .func (.func 77) #[] #[], .func (.func 78) #[] #[], .func (.func 79) #[] #[], .func (.func 80) #[] #[], .func (.func 81) #[] #[]]) (.int .i64 3)).run Tryz.prog w = .ok (.func (.func 75) #[] #[]) w := by kernel_rfl
theorem wb_at4 (w : World) : (Instr.index 118 (.agg #[.nilFunc, .nilFunc, .nilFunc, .func (.func 75) #[] #[], .func (.func 76) #[] #[], .func (.func 77) #[] #[], .func (.func 78) #[] #[], .func (.func 79) #[] #[], .func (.func 80) #[] #[], .func (.func 81) #[] #[]]) (.int .i64 4)).run Tryz.prog w = .ok (.func (.func 76) #[] #[]) w := by kernel_rfl
theorem wb_at5 (w : World) : (Instr.index 118 (.agg #[.nilFunc, .nilFunc, .nilFunc, .func (.func 75) #[] #[], .func (.func 76) #[] #[], .func (.func 77) #[] #[], .func (.func 78) #[] #[], .func (.func 79) #[] #[], .func (.func 80) #[] #[], .func (.func 81) #[] #[]]) (.int .i64 5)).run Tryz.prog w = .ok (.func (.func 77) #[] #[]) w := by kernel_rfl
theorem wb_at6 (w : World) : (Instr.index 118 (.agg #[.nilFunc, .nilFunc, .nilFunc, .func (.func 75) #[] #[], .func (.func 76) #[] #[], .func (.func 77) #[] #[], .func (.func 78) #[] #[], .func (.func 79) #[] #[], .func (.func 80) #[] #[], .func (.func 81) #[] #[]]) (.int .i64 6)).run Tryz.prog w = .ok (.func (.func 78) #[] #[]) w := by kernel_rfl
theorem wb_at7 (w : World) : (Instr.index 118 (.agg #[.nilFunc, .nilFunc, .nilFunc, .func (.func 75) #[] #[], .func (.func 76) #[] #[], .func (.func 77) #[] #[], .func (.func 78) #[] #[], .func (.func 79) #[] #[], .func (.func 80) #[] #[], .func (.func 81) #[] #[]]) (.int .i64 7)).run Tryz.prog w = .ok (.func (.func 79) #[] #[]) w := by kernel_rfl
theorem wb_at8 (w : World) : (Instr.index 118 (.agg #[.nilFunc, .nilFunc, .nilFunc, .func (.func 75) #[] #[], .func (.func 76) #[] #[], .func (.func 77) #[] #[], .func (.func 78) #[] #[], .func (.func 79) #[] #[], .func (.func 80) #[] #[], .func (.func 81) #[] #[]]) (.int .i64 8)).run Tryz.prog w = .ok (.func (.func 80) #[] #[]) w := by kernel_rfl
theorem wb_at9 (w : World) : (Instr.index 118 (.agg #[.nilFunc, .nilFunc, .nilFunc, .func (.func 75) #[] #[], .func (.func 76) #[] #[], .func (.func 77) #[] #[], .func (.func 78) #[] #[], .func (.func 79) #[] #[], .func (.func 80) #[] #[], .func (.func 81) #[] #[]]) (.int .i64 9)).run Tryz.prog w = .ok (.func (.func 81) #[] #[]) w := by kernel_rfl
theorem rep_set {α : Type} (k : Nat) (h : k < 8) (x y : α) (l : List α) : (List.replicate k x ++ List.replicate (8 - k) y ++ l).set k x = List.replicate (k + 1) x ++ List.replicate (8 - (k + 1)) y ++ l := by
  rcases (show k = 0 ∨ k = 1 ∨ k = 2 ∨ k = 3 ∨ k = 4 ∨ k = 5 ∨ k = 6 ∨ k = 7 by omega) with rfl | rfl | rfl | rfl | rfl | rfl | rfl | rfl <;> rfl
set_option maxRecDepth 100000 in
set_option maxHeartbeats 1000000 in
theorem impl_newCompilation (w : World) :
    Calls Tryz.prog 17 #[] w fun e w' => ∃ (g : Nat) (v : Value) (vs : List Value), e = .returned (.pointer (some ⟨g, 0, none⟩)) ∧ Cp w.heap.size g w' v (.slice none 0 0) vs 4 0 (constAt [] 0 4).1 [] (List.replicate 8 (constAt [] 0 4).2) ∧ Below w.heap.size w w' := by
  go_enter Tryz.func17, Tryz.ntmps17
  go_wp2_with fail
  have b0 := heap_alloc_new w (.cells #[.slice none 0 0, .slice none 0 0, .slice none 0 0, .slice none 0 0, .slice none 0 0, .slice none 0 0, .slice none 0 0, .slice none 0 0, .slice none 0 0, .slice none 0 0, .int .i64 0] 57)
  have h0 : Cir w.heap.size w.heap.size (w.alloc (.cells #[.slice none 0 0, .slice none 0 0, .slice none 0 0, .slice none 0 0, .slice none 0 0, .slice none 0 0, .slice none 0 0, .slice none 0 0, .slice none 0 0, .slice none 0 0, .int .i64 0] 57)) (.slice none 0 0) ⟨.slice none 0 0 :: (List.replicate 8 (.slice none 0 0) ++ [.int .i64 0]), 57⟩ 0 [] := ⟨b0, World.ownsRow_nil _ _ _ _, by simp [Value.ownBlock]⟩
  have low := below_alloc w (.cells #[.slice none 0 0, .slice none 0 0, .slice none 0 0, .slice none 0 0, .slice none 0 0, .slice none 0 0, .slice none 0 0, .slice none 0 0, .slice none 0 0, .slice none 0 0, .int .i64 0] 57)
  refine (impl_number w.heap.size w.heap.size 0 _ _ [] 0 (by omega) _ h0 (by simp) (by omega)).mono ?_
  rintro e w1 ⟨v', A, k1, d, rfl, l1, h1, t1, wl1⟩
  rw [show 0 + 4 = 4 from rfl] at h1
  have e4 : k1 = 4 := by rw [← l1]; rfl
  subst e4
  have hd := wl1.cap
  obtain ⟨b1, rfl, _⟩ := own_addr wl1.own (by omega)
  have low1 : Below w.heap.size w w1 := low.trans (t1.low (Nat.le_refl _) (by simp [Value.ownBlock]) (by simp))
  clear h0 low b0 t1
  go_wp2_with fail
  go_loopw [10] (fun i wr => ∃ k : Nat, k ≤ 8 ∧ i = .int .i64 k ∧ Cir w.heap.size w.heap.size wr v' ⟨.slice none 0 0 :: (List.replicate k (.slice (some ⟨b1, 0, none⟩) 4 d) ++ List.replicate (8 - k) (.slice none 0 0) ++ [.int .i64 0]), 57⟩ 4 (constAt [] 0 4).1 ∧ Wl w.heap.size v' (w.heap.size + 1) wr (.slice (some ⟨b1, 0, none⟩) 4 d) 4 (constAt [] 0 4).2 ∧ Below w.heap.size w wr) (fun i _ => 8 - (intOf i).toNat)
  case atStart => exact ⟨0, by omega, rfl, h1, wl1.mono (by simp), low1⟩
  case round =>
    obtain ⟨k, hk, rfl, hc, hw, hb⟩ := hrel
    clear h1 wl1 low1
    by_cases hlt : k < 8
    · have k0 : (0 : Int) ≤ k := by omega
      have k1 : (k : Int) < 8 := by omega
      have H1 := Lib.hid (hc.rest (k + 1) (.slice (some ⟨b1, 0, none⟩) 4 d))
      have H2 := Lib.hid (hw.rest (i := k + 1 + 1) (.slice (some ⟨b1, 0, none⟩) 4 d))
      have H3 := Lib.hid (hb.setCell (p := ⟨w.heap.size, k + 1 + 1, none⟩) (Nat.le_refl _) (.slice (some ⟨b1, 0, none⟩) 4 d))
      obtain ⟨y0, y1⟩ := blk (i := k + 1 + 1) (u := .slice none 0 0) hc.box (by
        rcases (show k = 0 ∨ k = 1 ∨ k = 2 ∨ k = 3 ∨ k = 4 ∨ k = 5 ∨ k = 6 ∨ k = 7 by omega) with rfl | rfl | rfl | rfl | rfl | rfl | rfl | rfl <;> rfl)
      have HS := Lib.hid (rep_set k hlt (Value.slice (some ⟨b1, 0, none⟩) 4 d) (Value.slice none 0 0) [Value.int .i64 0])
      have e1 : 2 + k = k + 1 + 1 := by omega
      clear hc hw hb
      go_wp2_with fail
      go_roundw
      case rel => exact ⟨k + 1, by omega, by go_num, by have := H1.out; simp only [List.set_cons_succ] at this; rw [HS.out] at this; exact this, H2.out, H3.out⟩
      case measure => simp [intOf]; omega
    · obtain rfl : k = 8 := by omega
      have hc' : Cir w.heap.size w.heap.size wr v' ⟨.slice none 0 0 :: (List.replicate 8 (.slice (some ⟨b1, 0, none⟩) 4 d) ++ [.int .i64 0]), 57⟩ 4 (constAt [] 0 4).1 := hc
      obtain ⟨y0, y1⟩ := blk (i := 10) (u := .int .i64 0) hc'.box rfl
      have q0 := (hw.at_ (j := 0) (by omega)).1
      rw [show (constAt [] 0 4).2.getD 0 0 = 0 from rfl] at q0
      have H1 := Lib.hid (hc'.rest 9 (.int .i64 0))
      have H2 := Lib.hid (hw.rest (i := 10) (.int .i64 0))
      have H3 := Lib.hid (hb.setCell (p := ⟨w.heap.size, 10, none⟩) (Nat.le_refl _) (.int .i64 0))
      clear hc hw hb hc'
      go_wp2_with fail
      go_ret
      refine ⟨_, rfl, ⟨v', List.replicate 8 (.slice (some ⟨b1, 0, none⟩) 4 d), ?_⟩, H3.out⟩
      have hw := H2.out
      exact ⟨H1.out, ⟨World.ownsRow_nil _ _ _ _, by simp [Value.ownBlock], apart.nil _ _ _⟩, Nat.le_refl _, Tb.same hd rfl (hw.rw (by decide) (by omega) (by simp [Value.ownBlock]))⟩
end Go.Proofs.YtjfmcdfgccdmpaaGreat
