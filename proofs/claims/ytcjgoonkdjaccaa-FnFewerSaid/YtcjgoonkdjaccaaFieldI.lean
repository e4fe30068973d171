/- FInv: the power with the exponent p - 2 is the inverse; the model's search finds the same. -/
import Derived.Test.YtcjgoonkdjaccaaProg
import Derived.Test.YtcjgoonkdjaccaaField
import Derived.Test.YtcjgoonkdjaccaaBox
namespace Go.Proofs.Ytcjgoonkdjaccaa
open Go Go.RowKit
structure PwAt (T : TypeId) (w wr : World) (p a x : Int) : Prop where
  arg : wr.heap[w.heap.size]? = some (.cells #[.int .i64 p, .int .i64 a] T (0, 0))
  res : wr.heap[w.heap.size + 1]? = some (.cells #[.int .i64 0, .int .i64 0] T (0, 0))
  pow : wr.heap[w.heap.size + 1 + 1]? = some (.cells #[.int .i64 p, .int .i64 x] T (0, 0))
  low : Below w.heap.size w wr
theorem PwAt.start (T : TypeId) (w : World) (p a : Int) :
    PwAt T w (((w.alloc (.cells #[.int .i64 p, .int .i64 a] T)).alloc (.cells #[.int .i64 0, .int .i64 0] T)).alloc (.cells #[.int .i64 p, .int .i64 1] T)) p a 1 := by
  refine ⟨?_, ?_, ?_, (((Below.refl _ _).alloc (Nat.le_refl _) _).alloc (by simp) _).alloc (by simp; omega) _⟩
  · rw [Below.heap_alloc _ _ _ (by simp; omega), Below.heap_alloc _ _ _ (by simp)]
    exact heap_alloc_new w _
  · rw [Below.heap_alloc _ _ _ (by simp)]
    have h := heap_alloc_new (w.alloc (.cells #[.int .i64 p, .int .i64 a] T)) (.cells #[.int .i64 0, .int .i64 0] T)
    simpa using h
  · have h := heap_alloc_new ((w.alloc (.cells #[.int .i64 p, .int .i64 a] T)).alloc (.cells #[.int .i64 0, .int .i64 0] T)) (.cells #[.int .i64 p, .int .i64 1] T)
    simpa using h
theorem PwAt.turn {T : TypeId} {w wr w1 : World} {p a x : Int} (h : PwAt T w wr p a x) (hb : Below wr.heap.size wr w1) (y : Int) :
    PwAt T w ((w1.setCell ⟨w.heap.size + 1 + 1, 0, none⟩ (.int .i64 p)).setCell ⟨w.heap.size + 1 + 1, 1, none⟩ (.int .i64 y)) p a y := by
  have h1 := (Array.getElem?_eq_some_iff.1 h.pow).1
  refine ⟨?_, ?_, ?_, ?_⟩
  · rw [box2_other (by omega), hb.block _ (by omega)]; exact h.arg
  · rw [box2_other (by omega), hb.block _ (by omega)]; exact h.res
  · exact box2_set ((hb.block _ h1).trans h.pow) _ _
  · exact ((h.low.trans (hb.mono h.low.size)).setCell (p := ⟨w.heap.size + 1 + 1, 0, none⟩) (by simp; omega) _).setCell (p := ⟨w.heap.size + 1 + 1, 1, none⟩) (by simp; omega) _
theorem impl_inverse (p a : Nat) (h : isEl p a) (w : World) :
    Calls Try.prog 94 #[.agg #[.int .i64 p, .int .i64 a]] w fun e w' => e = .returned (.agg #[.int .i64 p, .int .i64 (pwN p a (p - 2) : Nat)]) ∧ Below w.heap.size w w' := by
  obtain ⟨hp2, hp1, _⟩ := h.range
  go_enter Try.func94, Try.ntmps94
  go_wp2_with fail
  go_loopw [10] (fun i wr => ∃ k : Nat, k ≤ p - 2 ∧ i = .int .i64 k ∧ PwAt 59 w wr p a (pwN p a k : Nat)) (fun i _ => p - 2 - (intOf i).toNat)
  case atStart => exact ⟨0, by omega, rfl, PwAt.start _ w p a⟩
  case round =>
    obtain ⟨k, hk, rfl, hr⟩ := hrel
    have hel : isEl p (pwN p a k : Nat) := ⟨h.1, by omega, by have := pwN_lt p a (by omega) k; omega⟩
    by_cases hlt : k < p - 2
    · obtain ⟨a0, a1, _, _⟩ := box2 hr.arg
      obtain ⟨p0, p1, _, _⟩ := box2 hr.pow
      go_wp2_with fail
      refine (impl_times p (pwN p a k : Nat) a hel h wr).mono ?_
      rintro e w1 ⟨rfl, hb1⟩
      have hpow := (hb1.block _ (Array.getElem?_eq_some_iff.1 hr.pow).1).trans hr.pow
      obtain ⟨q0, q1, q2, q3⟩ := box2 hpow
      have hn := hr.turn hb1 (((pwN p a k : Nat) : Int) * a % p)
      have Hn := Lib.hid hn
      clear hpow hn hr a0 a1 p0 p1
      go_wp2_with fail
      go_roundw
      case rel => exact ⟨k + 1, by omega, by go_num, by have e : ((pwN p a (k + 1) : Nat) : Int) = ((pwN p a k : Nat) : Int) * a % p := (by rw [pwN_next]; simp); rw [e]; exact Hn.out⟩
      case measure => simp [intOf]; omega
    · obtain rfl : k = p - 2 := by omega
      obtain ⟨p0, p1, _, _⟩ := box2 hr.pow
      obtain ⟨r0, r1, r2, r3⟩ := box2 hr.res
      have hl1 := (Array.getElem?_eq_some_iff.1 hr.res).1
      have hlow := Lib.hid (hr.low.setCell (p := ⟨w.heap.size + 1, 0, none⟩) (by simp) (.int .i64 (p : Int)))
      have hlow2 := Lib.hid (hlow.out.setCell (p := ⟨w.heap.size + 1, 1, none⟩) (by simp) (.int .i64 ((pwN p a (p - 2) : Nat) : Int)))
      go_wp2_with fail
      (try simp only [Exit.inBlock, Exit.then])
      refine bodyPost_ret (results_cell_row (P := Try.prog) rfl _ _ (w.heap.size + 1) 59 _ (0, 0) _ rfl (box2_set hr.res _ _) Try.underlying59 rfl (by kernel_rfl)) rfl ?_
      exact ⟨rfl, hlow2.out⟩
theorem run_value (x y : Int) (w : World) : (Instr.field 59 (.agg #[.int .i64 x, .int .i64 y]) 1).run Try.prog w = .ok (.int .i64 y) w := by kernel_rfl
theorem impl_FInv (p a : Int) (w : World) :
    Calls Try.prog 75 #[.int .i64 p, .int .i64 a] w fun e w' => e = .returned (.int .i64 (finvI p a)) ∧ Below w.heap.size w w' := by
  by_cases h : isEl p a
  · by_cases h0 : a = 0
    · subst h0
      rw [finvI_zero]
      go_enter Try.func75, Try.ntmps75
      go_wp2_with fail
      refine (impl_newElement_yes p 0 h w).mono ?_
      rintro e w1 ⟨rfl, hb1⟩
      go_wp2_with fail
      go_ret
      exact ⟨rfl, hb1.alloc hb1.size _⟩
    · have e0 : (a == 0) = false := beq_eq_false_iff_ne.2 h0
      have hf : finvI p a = (pwN p.toNat a.toNat (p.toNat - 2) : Int) := by unfold finvI; rw [if_pos ⟨h, h0⟩]
      rw [hf]
      obtain ⟨n, m, rfl, rfl, _, _, _, _⟩ := h.nat
      simp only [Int.toNat_natCast]
      have hfld := run_value
      clear hf
      go_enter Try.func75, Try.ntmps75
      go_wp2_with fail
      refine (impl_newElement_yes n m h w).mono ?_
      rintro e w1 ⟨rfl, hb1⟩
      go_wp2_with fail
      refine (impl_inverse n m h _).mono ?_
      rintro e w2 ⟨rfl, hb2⟩
      have hb3 := (hb1.alloc hb1.size _).trans (hb2.mono (by have := hb1.size; simp; omega))
      go_wp2_with fail
      go_ret
      exact ⟨rfl, hb3⟩
  · rw [finvI_no h]
    go_enter Try.func75, Try.ntmps75
    go_wp2_with fail
    refine (impl_newElement_no p a h w).mono ?_
    rintro e w1 ⟨rfl, hb1⟩
    go_wp2_with fail
    go_ret
    exact ⟨rfl, hb1.alloc hb1.size _⟩
theorem spec_IsElement_at (p a : Int) (b : Bool) (h : decide (isEl p a) = b) (w : World) :
    Calls Try.prog 54 #[.int .i64 p, .int .i64 a] w fun e w' => e = .returned (.bool b) ∧ w = w' := by
  subst h; exact spec_IsElement p a w
theorem spec_FInv (p a : Int) (w : World) :
    Calls Try.prog 87 #[.int .i64 p, .int .i64 a] w fun e w' => e = .returned (.int .i64 (finvI p a)) ∧ w = w' := by
  by_cases h : isEl p a
  · obtain ⟨hp2, hp1, ha0, ha1, _⟩ := h.range
    have hel := Lib.hid (decide_eq_true h)
    obtain ⟨x, hx, hcase⟩ : ∃ x, finvI p a = x ∧ Hid ((x = -1 ∧ ∀ b : Int, 0 ≤ b → b < p → (a * b) % p ≠ 1) ∨ (1 ≤ x ∧ x < p ∧ (a * x) % p = 1 ∧ ∀ b : Int, 0 ≤ b → b < p → (a * b) % p = 1 → b = x)) := by
      refine ⟨_, rfl, ?_⟩
      by_cases h0 : a = 0
      · subst h0
        exact .inl ⟨finvI_zero p, fun b _ _ => zero_prod p b⟩
      · exact .inr (finvI_facts h h0)
    rw [hx]
    clear hx
    go_enter Try.func87, Try.ntmps87
    go_wp2_with fail
    go_loop [5] (fun i => ∃ k : Nat, 1 ≤ k ∧ (k : Int) ≤ p ∧ i = .int .i64 k ∧ (x < 0 ∨ (k : Int) ≤ x)) (fun i => (p - intOf i).toNat)
    case atStart => exact ⟨1, by omega, by omega, rfl, by rcases hcase.out with ⟨e, _⟩ | ⟨e, _⟩ <;> omega⟩
    case round =>
      obtain ⟨k, hk1, hkp, rfl, hkx⟩ := hrel
      by_cases hlt : (k : Int) < p
      · have hek : isEl p k := ⟨h.1, by omega, hlt⟩
        obtain ⟨hs0, hs1⟩ := prod_small h hek
        go_wp2_with fail
        refine (spec_IsElement_at p a true hel.out w).mono ?_
        rintro e w1 ⟨rfl, rfl⟩
        by_cases hm : (a * (k : Int)) % p = 1
        · have hxk : (k : Int) = x := by
            rcases hcase.out with ⟨e, h2⟩ | ⟨e, _, _, h2⟩
            · exact absurd hm (h2 k (by omega) hlt)
            · exact h2 k (by omega) hlt hm
          subst hxk
          go_wp2_with fail
          go_ret
          exact ⟨rfl, rfl⟩
        · have hxk : x < 0 ∨ (k : Int) + 1 ≤ x := by
            rcases hcase.out with ⟨e, h2⟩ | ⟨e, _, h3, h2⟩
            · exact .inl (by omega)
            · right
              rcases Int.lt_or_eq_of_le (show (k : Int) ≤ x by omega) with h' | h'
              · omega
              · rw [← h'] at h3; exact absurd h3 hm
          go_wp2_with fail
          go_round
          case rel => exact ⟨k + 1, by omega, by omega, by go_num, by omega⟩
          case measure => simp [intOf]; omega
      · have hxk : x = -1 := by
          rcases hcase.out with ⟨e, _⟩ | ⟨e, e2, _⟩ <;> omega
        subst hxk
        go_wp2_with fail
        go_ret
        exact ⟨rfl, rfl⟩
  · rw [finvI_no h]
    have hel := Lib.hid (decide_eq_false h)
    by_cases hp : 1 < p
    · go_enter Try.func87, Try.ntmps87
      go_wp2_with fail
      refine wp_loop_rounds 1 ?_
      rw [rounds_succ]
      go_wp2_with fail
      refine (spec_IsElement_at p a false hel.out w).mono ?_
      rintro e w1 ⟨rfl, rfl⟩
      go_wp2_with fail
      go_ret
      exact ⟨rfl, rfl⟩
    · go_enter Try.func87, Try.ntmps87
      go_wp2_with fail
      refine wp_loop_rounds 1 ?_
      rw [rounds_succ]
      go_wp2_with fail
      go_ret
      exact ⟨rfl, rfl⟩
end Go.Proofs.Ytcjgoonkdjaccaa
