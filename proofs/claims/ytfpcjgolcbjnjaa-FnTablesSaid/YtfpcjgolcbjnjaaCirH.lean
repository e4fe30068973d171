/- The draws of circuits: what is drawn is valid. No condition. -/
import Derived.Test.YtfpcjgolcbjnjaaProg
import Derived.Test.YtfpcjgolcbjnjaaCirM
import Derived.Test.YtfpcjgolcbjnjaaB1
import Derived.Test.YtfpcjgolcbjnjaaC1
import Derived.Test.YtfpcjgolcbjnjaaAppZ
namespace Go.Proofs.Ytfpcjgolcbjnjaa
open Go Go.RowKit
/-- A gate that was drawn for an index. -/
def DrawnG (T : TypeId) (B g n : Nat) (w : World) (e : Ending) (w' : World) : Prop :=
  ∃ k a b : Int, e = .returned (.agg #[.int .i64 k, .int .i64 a, .int .i64 b]) ∧ gateOk k a b n ∧ RunD T B g w w'
theorem gateOk_1 {a n : Int} (h : 0 ≤ a ∧ a < 20) : gateOk 1 a 0 n := .inl ⟨rfl, by omega, rfl⟩
theorem gateOk_2 {a n : Int} (h : 0 ≤ a ∧ a < 2) : gateOk 2 a 0 n := .inr (.inl ⟨rfl, by omega, rfl⟩)
theorem gateOk_34 {k a b n : Int} (hk : k = 3 ∨ k = 4) (h : 0 ≤ a ∧ a < n) (h' : 0 ≤ b ∧ b < n) : gateOk k a b n := .inr (.inr (.inl ⟨hk, h, h'⟩))
theorem gateOk_5 {a n : Int} (h : 0 ≤ a ∧ a < n) : gateOk 5 a 0 n := .inr (.inr (.inr ⟨rfl, h, rfl⟩))
set_option maxRecDepth 100000 in
set_option maxHeartbeats 2000000 in
theorem l13Gate_any (B g n : Nat) (w : World) (hc : Cur 95 B w g) (hn : n ≤ 1000000) :
    Calls Try.prog 79 #[.pointer (some ⟨g, 0, none⟩), .int .i64 n] w (DrawnG 95 B g n w) := by
  have hgl := hc.lt
  have R := (RunD.start hc).alloc (.cells #[.int .i64 0, .int .i64 0, .int .i64 0] 86)
  have hr := heap_alloc_new w (.cells #[.int .i64 0, .int .i64 0, .int .i64 0] 86)
  go_enter Try.func79, Try.ntmps79
  go_wp2_with fail
  refine (l01Below_any B g 7 _ R.cur).mono ?_
  rintro e w1 ⟨d, rfl, ⟨_, hd⟩, hc1, hg1⟩
  replace hd := hd (by omega)
  replace R := R.next hc1 hg1
  replace hr := heap_draw hr hg1 (by omega)
  clear hc1 hg1 hc
  obtain ⟨hd0, hd1⟩ := hd
  rcases Nat.eq_zero_or_pos n with h0 | h0
  · subst h0
    rcases (show d = 0 ∨ d = 1 ∨ d = 2 ∨ d = 3 ∨ d = 4 ∨ d = 5 ∨ d = 6 by omega) with rfl | rfl | rfl | rfl | rfl | rfl | rfl
    · skip
      clear hd0 hd1
      go_wp2_with fail
      refine (l01Below_any B g 20 _ R.cur).mono ?_
      rintro e wa ⟨a, rfl, ⟨_, ha⟩, hc1, hg1⟩
      replace ha := ha (by omega)
      replace R := R.next hc1 hg1
      replace hr := heap_draw hr hg1 (by omega)
      clear hc1 hg1
      obtain ⟨c0, f0⟩ := blk (i := 0) hr rfl
      obtain ⟨c1, f1⟩ := blk (i := 1) hr rfl
      obtain ⟨c2, f2⟩ := blk (i := 2) hr rfl
      go_wp2_with fail
      (try simp only [Exit.inBlock, Exit.then])
      refine bodyPost_ret (results_cell_row (P := Try.prog) rfl _ _ w.heap.size 86 _ (0, 0) _ rfl (heap_set (heap_set (heap_set hr _) _) _) Try.underlying86 rfl (by kernel_rfl)) rfl ?_
      exact ⟨_, _, _, rfl, gateOk_1 ha, ((R.set (Nat.le_refl _) _ _).set (Nat.le_refl _) _ _).set (Nat.le_refl _) _ _⟩
    · skip
      clear hd0 hd1
      go_wp2_with fail
      refine (l01Below_any B g 2 _ R.cur).mono ?_
      rintro e wa ⟨a, rfl, ⟨_, ha⟩, hc1, hg1⟩
      replace ha := ha (by omega)
      replace R := R.next hc1 hg1
      replace hr := heap_draw hr hg1 (by omega)
      clear hc1 hg1
      obtain ⟨c0, f0⟩ := blk (i := 0) hr rfl
      obtain ⟨c1, f1⟩ := blk (i := 1) hr rfl
      obtain ⟨c2, f2⟩ := blk (i := 2) hr rfl
      go_wp2_with fail
      (try simp only [Exit.inBlock, Exit.then])
      refine bodyPost_ret (results_cell_row (P := Try.prog) rfl _ _ w.heap.size 86 _ (0, 0) _ rfl (heap_set (heap_set (heap_set hr _) _) _) Try.underlying86 rfl (by kernel_rfl)) rfl ?_
      exact ⟨_, _, _, rfl, gateOk_2 ha, ((R.set (Nat.le_refl _) _ _).set (Nat.le_refl _) _ _).set (Nat.le_refl _) _ _⟩
    · skip
      clear hd0 hd1
      go_wp2_with fail
      refine (l01Below_any B g 20 _ R.cur).mono ?_
      rintro e wa ⟨a, rfl, ⟨_, ha⟩, hc1, hg1⟩
      replace ha := ha (by omega)
      replace R := R.next hc1 hg1
      replace hr := heap_draw hr hg1 (by omega)
      clear hc1 hg1
      obtain ⟨c0, f0⟩ := blk (i := 0) hr rfl
      obtain ⟨c1, f1⟩ := blk (i := 1) hr rfl
      obtain ⟨c2, f2⟩ := blk (i := 2) hr rfl
      go_wp2_with fail
      (try simp only [Exit.inBlock, Exit.then])
      refine bodyPost_ret (results_cell_row (P := Try.prog) rfl _ _ w.heap.size 86 _ (0, 0) _ rfl (heap_set (heap_set (heap_set hr _) _) _) Try.underlying86 rfl (by kernel_rfl)) rfl ?_
      exact ⟨_, _, _, rfl, gateOk_1 ha, ((R.set (Nat.le_refl _) _ _).set (Nat.le_refl _) _ _).set (Nat.le_refl _) _ _⟩
    · skip
      clear hd0 hd1
      go_wp2_with fail
      refine (l01Below_any B g 20 _ R.cur).mono ?_
      rintro e wa ⟨a, rfl, ⟨_, ha⟩, hc1, hg1⟩
      replace ha := ha (by omega)
      replace R := R.next hc1 hg1
      replace hr := heap_draw hr hg1 (by omega)
      clear hc1 hg1
      obtain ⟨c0, f0⟩ := blk (i := 0) hr rfl
      obtain ⟨c1, f1⟩ := blk (i := 1) hr rfl
      obtain ⟨c2, f2⟩ := blk (i := 2) hr rfl
      go_wp2_with fail
      (try simp only [Exit.inBlock, Exit.then])
      refine bodyPost_ret (results_cell_row (P := Try.prog) rfl _ _ w.heap.size 86 _ (0, 0) _ rfl (heap_set (heap_set (heap_set hr _) _) _) Try.underlying86 rfl (by kernel_rfl)) rfl ?_
      exact ⟨_, _, _, rfl, gateOk_1 ha, ((R.set (Nat.le_refl _) _ _).set (Nat.le_refl _) _ _).set (Nat.le_refl _) _ _⟩
    · skip
      clear hd0 hd1
      go_wp2_with fail
      refine (l01Below_any B g 20 _ R.cur).mono ?_
      rintro e wa ⟨a, rfl, ⟨_, ha⟩, hc1, hg1⟩
      replace ha := ha (by omega)
      replace R := R.next hc1 hg1
      replace hr := heap_draw hr hg1 (by omega)
      clear hc1 hg1
      obtain ⟨c0, f0⟩ := blk (i := 0) hr rfl
      obtain ⟨c1, f1⟩ := blk (i := 1) hr rfl
      obtain ⟨c2, f2⟩ := blk (i := 2) hr rfl
      go_wp2_with fail
      (try simp only [Exit.inBlock, Exit.then])
      refine bodyPost_ret (results_cell_row (P := Try.prog) rfl _ _ w.heap.size 86 _ (0, 0) _ rfl (heap_set (heap_set (heap_set hr _) _) _) Try.underlying86 rfl (by kernel_rfl)) rfl ?_
      exact ⟨_, _, _, rfl, gateOk_1 ha, ((R.set (Nat.le_refl _) _ _).set (Nat.le_refl _) _ _).set (Nat.le_refl _) _ _⟩
    · skip
      clear hd0 hd1
      go_wp2_with fail
      refine (l01Below_any B g 20 _ R.cur).mono ?_
      rintro e wa ⟨a, rfl, ⟨_, ha⟩, hc1, hg1⟩
      replace ha := ha (by omega)
      replace R := R.next hc1 hg1
      replace hr := heap_draw hr hg1 (by omega)
      clear hc1 hg1
      obtain ⟨c0, f0⟩ := blk (i := 0) hr rfl
      obtain ⟨c1, f1⟩ := blk (i := 1) hr rfl
      obtain ⟨c2, f2⟩ := blk (i := 2) hr rfl
      go_wp2_with fail
      (try simp only [Exit.inBlock, Exit.then])
      refine bodyPost_ret (results_cell_row (P := Try.prog) rfl _ _ w.heap.size 86 _ (0, 0) _ rfl (heap_set (heap_set (heap_set hr _) _) _) Try.underlying86 rfl (by kernel_rfl)) rfl ?_
      exact ⟨_, _, _, rfl, gateOk_1 ha, ((R.set (Nat.le_refl _) _ _).set (Nat.le_refl _) _ _).set (Nat.le_refl _) _ _⟩
    · skip
      clear hd0 hd1
      go_wp2_with fail
      refine (l01Below_any B g 20 _ R.cur).mono ?_
      rintro e wa ⟨a, rfl, ⟨_, ha⟩, hc1, hg1⟩
      replace ha := ha (by omega)
      replace R := R.next hc1 hg1
      replace hr := heap_draw hr hg1 (by omega)
      clear hc1 hg1
      obtain ⟨c0, f0⟩ := blk (i := 0) hr rfl
      obtain ⟨c1, f1⟩ := blk (i := 1) hr rfl
      obtain ⟨c2, f2⟩ := blk (i := 2) hr rfl
      go_wp2_with fail
      (try simp only [Exit.inBlock, Exit.then])
      refine bodyPost_ret (results_cell_row (P := Try.prog) rfl _ _ w.heap.size 86 _ (0, 0) _ rfl (heap_set (heap_set (heap_set hr _) _) _) Try.underlying86 rfl (by kernel_rfl)) rfl ?_
      exact ⟨_, _, _, rfl, gateOk_1 ha, ((R.set (Nat.le_refl _) _ _).set (Nat.le_refl _) _ _).set (Nat.le_refl _) _ _⟩
  · have hne : ((n : Int) == 0) = false := beq_eq_false_iff_ne.2 (by omega)
    rcases (show d = 0 ∨ d = 1 ∨ d = 2 ∨ d = 3 ∨ d = 4 ∨ d = 5 ∨ d = 6 by omega) with rfl | rfl | rfl | rfl | rfl | rfl | rfl
    · skip
      clear hd0 hd1
      go_wp2_with fail
      refine (l01Below_any B g 20 _ R.cur).mono ?_
      rintro e wa ⟨a, rfl, ⟨_, ha⟩, hc1, hg1⟩
      replace ha := ha (by omega)
      replace R := R.next hc1 hg1
      replace hr := heap_draw hr hg1 (by omega)
      clear hc1 hg1
      obtain ⟨c0, f0⟩ := blk (i := 0) hr rfl
      obtain ⟨c1, f1⟩ := blk (i := 1) hr rfl
      obtain ⟨c2, f2⟩ := blk (i := 2) hr rfl
      go_wp2_with fail
      (try simp only [Exit.inBlock, Exit.then])
      refine bodyPost_ret (results_cell_row (P := Try.prog) rfl _ _ w.heap.size 86 _ (0, 0) _ rfl (heap_set (heap_set (heap_set hr _) _) _) Try.underlying86 rfl (by kernel_rfl)) rfl ?_
      exact ⟨_, _, _, rfl, gateOk_1 ha, ((R.set (Nat.le_refl _) _ _).set (Nat.le_refl _) _ _).set (Nat.le_refl _) _ _⟩
    · skip
      clear hd0 hd1
      go_wp2_with fail
      refine (l01Below_any B g 2 _ R.cur).mono ?_
      rintro e wa ⟨a, rfl, ⟨_, ha⟩, hc1, hg1⟩
      replace ha := ha (by omega)
      replace R := R.next hc1 hg1
      replace hr := heap_draw hr hg1 (by omega)
      clear hc1 hg1
      obtain ⟨c0, f0⟩ := blk (i := 0) hr rfl
      obtain ⟨c1, f1⟩ := blk (i := 1) hr rfl
      obtain ⟨c2, f2⟩ := blk (i := 2) hr rfl
      go_wp2_with fail
      (try simp only [Exit.inBlock, Exit.then])
      refine bodyPost_ret (results_cell_row (P := Try.prog) rfl _ _ w.heap.size 86 _ (0, 0) _ rfl (heap_set (heap_set (heap_set hr _) _) _) Try.underlying86 rfl (by kernel_rfl)) rfl ?_
      exact ⟨_, _, _, rfl, gateOk_2 ha, ((R.set (Nat.le_refl _) _ _).set (Nat.le_refl _) _ _).set (Nat.le_refl _) _ _⟩
    · skip
      clear hd0 hd1
      go_wp2_with fail
      refine (l01Below_any B g n _ R.cur).mono ?_
      rintro e wa ⟨a, rfl, ⟨_, ha⟩, hc1, hg1⟩
      replace ha := ha (by omega)
      replace R := R.next hc1 hg1
      replace hr := heap_draw hr hg1 (by omega)
      clear hc1 hg1
      go_wp2_with fail
      refine (l01Below_any B g n _ R.cur).mono ?_
      rintro e wb ⟨b, rfl, ⟨_, hb⟩, hc1, hg1⟩
      replace hb := hb (by omega)
      replace R := R.next hc1 hg1
      replace hr := heap_draw hr hg1 (by omega)
      clear hc1 hg1
      obtain ⟨c0, f0⟩ := blk (i := 0) hr rfl
      obtain ⟨c1, f1⟩ := blk (i := 1) hr rfl
      obtain ⟨c2, f2⟩ := blk (i := 2) hr rfl
      go_wp2_with fail
      (try simp only [Exit.inBlock, Exit.then])
      refine bodyPost_ret (results_cell_row (P := Try.prog) rfl _ _ w.heap.size 86 _ (0, 0) _ rfl (heap_set (heap_set (heap_set hr _) _) _) Try.underlying86 rfl (by kernel_rfl)) rfl ?_
      exact ⟨_, _, _, rfl, gateOk_34 (.inl rfl) ha hb, ((R.set (Nat.le_refl _) _ _).set (Nat.le_refl _) _ _).set (Nat.le_refl _) _ _⟩
    · skip
      clear hd0 hd1
      go_wp2_with fail
      refine (l01Below_any B g n _ R.cur).mono ?_
      rintro e wa ⟨a, rfl, ⟨_, ha⟩, hc1, hg1⟩
      replace ha := ha (by omega)
      replace R := R.next hc1 hg1
      replace hr := heap_draw hr hg1 (by omega)
      clear hc1 hg1
      go_wp2_with fail
      refine (l01Below_any B g n _ R.cur).mono ?_
      rintro e wb ⟨b, rfl, ⟨_, hb⟩, hc1, hg1⟩
      replace hb := hb (by omega)
      replace R := R.next hc1 hg1
      replace hr := heap_draw hr hg1 (by omega)
      clear hc1 hg1
      obtain ⟨c0, f0⟩ := blk (i := 0) hr rfl
      obtain ⟨c1, f1⟩ := blk (i := 1) hr rfl
      obtain ⟨c2, f2⟩ := blk (i := 2) hr rfl
      go_wp2_with fail
      (try simp only [Exit.inBlock, Exit.then])
      refine bodyPost_ret (results_cell_row (P := Try.prog) rfl _ _ w.heap.size 86 _ (0, 0) _ rfl (heap_set (heap_set (heap_set hr _) _) _) Try.underlying86 rfl (by kernel_rfl)) rfl ?_
      exact ⟨_, _, _, rfl, gateOk_34 (.inr rfl) ha hb, ((R.set (Nat.le_refl _) _ _).set (Nat.le_refl _) _ _).set (Nat.le_refl _) _ _⟩
    · skip
      clear hd0 hd1
      go_wp2_with fail
      refine (l01Below_any B g n _ R.cur).mono ?_
      rintro e wa ⟨a, rfl, ⟨_, ha⟩, hc1, hg1⟩
      replace ha := ha (by omega)
      replace R := R.next hc1 hg1
      replace hr := heap_draw hr hg1 (by omega)
      clear hc1 hg1
      obtain ⟨c0, f0⟩ := blk (i := 0) hr rfl
      obtain ⟨c1, f1⟩ := blk (i := 1) hr rfl
      obtain ⟨c2, f2⟩ := blk (i := 2) hr rfl
      go_wp2_with fail
      (try simp only [Exit.inBlock, Exit.then])
      refine bodyPost_ret (results_cell_row (P := Try.prog) rfl _ _ w.heap.size 86 _ (0, 0) _ rfl (heap_set (heap_set (heap_set hr _) _) _) Try.underlying86 rfl (by kernel_rfl)) rfl ?_
      exact ⟨_, _, _, rfl, gateOk_5 ha, ((R.set (Nat.le_refl _) _ _).set (Nat.le_refl _) _ _).set (Nat.le_refl _) _ _⟩
    · skip
      clear hd0 hd1
      go_wp2_with fail
      refine (l01Below_any B g 20 _ R.cur).mono ?_
      rintro e wa ⟨a, rfl, ⟨_, ha⟩, hc1, hg1⟩
      replace ha := ha (by omega)
      replace R := R.next hc1 hg1
      replace hr := heap_draw hr hg1 (by omega)
      clear hc1 hg1
      obtain ⟨c0, f0⟩ := blk (i := 0) hr rfl
      obtain ⟨c1, f1⟩ := blk (i := 1) hr rfl
      obtain ⟨c2, f2⟩ := blk (i := 2) hr rfl
      go_wp2_with fail
      (try simp only [Exit.inBlock, Exit.then])
      refine bodyPost_ret (results_cell_row (P := Try.prog) rfl _ _ w.heap.size 86 _ (0, 0) _ rfl (heap_set (heap_set (heap_set hr _) _) _) Try.underlying86 rfl (by kernel_rfl)) rfl ?_
      exact ⟨_, _, _, rfl, gateOk_1 ha, ((R.set (Nat.le_refl _) _ _).set (Nat.le_refl _) _ _).set (Nat.le_refl _) _ _⟩
    · skip
      clear hd0 hd1
      go_wp2_with fail
      refine (l01Below_any B g n _ R.cur).mono ?_
      rintro e wa ⟨a, rfl, ⟨_, ha⟩, hc1, hg1⟩
      replace ha := ha (by omega)
      replace R := R.next hc1 hg1
      replace hr := heap_draw hr hg1 (by omega)
      clear hc1 hg1
      go_wp2_with fail
      refine (l01Below_any B g n _ R.cur).mono ?_
      rintro e wb ⟨b, rfl, ⟨_, hb⟩, hc1, hg1⟩
      replace hb := hb (by omega)
      replace R := R.next hc1 hg1
      replace hr := heap_draw hr hg1 (by omega)
      clear hc1 hg1
      obtain ⟨c0, f0⟩ := blk (i := 0) hr rfl
      obtain ⟨c1, f1⟩ := blk (i := 1) hr rfl
      obtain ⟨c2, f2⟩ := blk (i := 2) hr rfl
      go_wp2_with fail
      (try simp only [Exit.inBlock, Exit.then])
      refine bodyPost_ret (results_cell_row (P := Try.prog) rfl _ _ w.heap.size 86 _ (0, 0) _ rfl (heap_set (heap_set (heap_set hr _) _) _) Try.underlying86 rfl (by kernel_rfl)) rfl ?_
      exact ⟨_, _, _, rfl, gateOk_34 (.inr rfl) ha hb, ((R.set (Nat.le_refl _) _ _).set (Nat.le_refl _) _ _).set (Nat.le_refl _) _ _⟩
/-- Input bits that were drawn. -/
def DrawnB (T : TypeId) (B g : Nat) (w : World) (e : Ending) (w' : World) : Prop :=
  ∃ (A : Option Addr) (c : Nat) (bs : List Int), e = .returned (.slice A 80 c) ∧ bitsOk bs ∧ OwnA 1 w.heap.size w'.heap.size w' (.slice A 80 c) 80 bs ∧ RunD T B g w w'
theorem allBit.snoc {z : Int} {zs : List Int} (h : allBit zs) (hz : 0 ≤ z ∧ z < 2) : allBit (zs ++ [z]) := fun y hy => by
  rcases List.mem_append.1 hy with h1 | h1
  · exact h y h1
  · simp at h1; subst h1; unfold isBit; omega
theorem allBit.zeros {zs : List Int} (h : allBit zs) (k : Nat) : allBit (zs ++ List.replicate k 0) := fun y hy => by
  rcases List.mem_append.1 hy with h1 | h1
  · exact h y h1
  · rw [List.eq_of_mem_replicate h1]; unfold isBit; omega
set_option maxRecDepth 100000 in
set_option maxHeartbeats 1000000 in
theorem l13Input_any (B g : Nat) (w : World) (hc : Cur 95 B w g) :
    Calls Try.prog 45 #[.pointer (some ⟨g, 0, none⟩)] w (DrawnB 95 B g w) := by
  go_enter Try.func45, Try.ntmps45
  go_wp2_with fail
  go_loopw [3, 4] (fun v i wr => ∃ l : List Int, l.length ≤ 20 ∧ i = .int .i64 (l.length : Int) ∧ allBit l ∧ wr.ownsRow w.heap.size 3 1 v l.length (intVals l) ∧ RunD 95 B g w wr) (fun _ i _ => 20 - (intOf i).toNat)
  case atStart => exact ⟨[], Nat.zero_le _, rfl, (by intro z hz; simp at hz), World.ownsRow_made w #[] 0 (Nat.le_refl _) (by unfold maxLen; omega) rfl, (RunD.start hc).alloc _⟩
  case round =>
    obtain ⟨l, hl, rfl, hpl, hown, R⟩ := hrel
    by_cases hlt : l.length < 20
    · have hlt2 : (l.length : Int) < 20 := by omega
      go_wp2_with fail
      refine (l01Below_any _ g 2 wr R.cur).mono ?_
      rintro e w2 ⟨z, rfl, ⟨_, hz⟩, hc2, hg2⟩
      replace hz := hz (by omega)
      have R2 := R.next hc2 hg2
      have hown1 := own_cur hown hg2 R.lt
      have hs2 := R2.size
      have Hpl := Lib.hid (hpl.snoc hz)
      clear hown R hg2 hc2 hpl hz
      go_wp2_with (first | (at_builtin; refine app_list (e' := 3) elemInt rfl _ _ rfl w.heap.size _ l.length (intVals l) rfl (hown1.alloc _) w2.heap.size 1 1 _ (0, 0) rfl (heap_alloc_new w2 _) rfl (oneCell_i64 [_]) (by omega) (by unfold maxLen; omega) (by omega) (by simp; omega) (w2.heap.size + 1) (by simp) ?_))
      intro g2 cap w3 hown2 hgrow hat hgl2
      rw [show intVals l ++ (#[Value.int .i64 z] : Array Value).toList = intVals (l ++ [z]) by simp [intVals]] at hown2
      have R3 := (R2.alloc _).own (hown1.alloc _) hgrow (Nat.le_refl _)
      have hll : (l ++ [z]).length = l.length + 1 := by simp
      rw [← hll] at hown2
      have Hown2 := Lib.hid hown2
      have HR := Lib.hid R3
      have Hll := Lib.hid hll
      clear hown2 R3 hll hown1 hgrow R2
      go_wp2_with fail
      go_roundw
      case rel => exact ⟨_, by rw [Hll.out]; omega, by rw [Hll.out]; go_num, Hpl.out, by simpa using Hown2.out, HR.out⟩
      case measure => simp [intOf]; omega
    · have hle : l.length = 20 := by omega
      rw [hle] at hown
      obtain ⟨Av, KK, cv, rfl, rfl⟩ := ownsRow_slice hown
      obtain ⟨i0, hi0, hz0, hs0, hb0⟩ := infoInt
      obtain ⟨v', w', hrun, ho', hg', -⟩ := run_app_zeros (P := Try.prog) wr 25 3 25 3 i0 (.int .i64 0) .i64 .i64 Try.underlying25 Try.underlying3 hi0 hz0 hs0 rfl rfl w.heap.size (.slice Av 20 cv) 20 (intVals l) hown 60 (by omega) (by omega) (by unfold maxLen; omega) (by rw [hb0]; omega) R.size
      have R2 := R.own hown hg' (Nat.le_refl _)
      rw [show intVals l ++ List.replicate 60 (Value.int .i64 0) = intVals (l ++ List.replicate 60 0) by simp [intVals]] at ho'
      obtain ⟨A, m, c, rfl, rfl⟩ := ownsRow_slice ho'
      have Hb : Hid (bitsOk (l ++ List.replicate 60 0)) := ⟨by rw [List.length_append, hle, List.length_replicate], hpl.zeros 60⟩
      have Hown := Lib.hid (OwnA.of_own ho')
      have HR := Lib.hid R2
      have hl20 : ¬ (l.length : Int) < 20 := by omega
      clear ho' hg' R2 hown R hpl hi0 hz0 hs0 hb0 hle
      go_wp2_with (first | (at_builtin; refine Lib.wpList_append_run _ rfl _ _ _ _ rfl _ _ rfl rfl _ _ hrun ?_))
      go_ret
      exact ⟨A, c, _, rfl, Hb.out, Hown.out, HR.out⟩
end Go.Proofs.Ytfpcjgolcbjnjaa
