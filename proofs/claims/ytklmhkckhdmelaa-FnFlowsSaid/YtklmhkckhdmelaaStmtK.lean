/- The model's StmtOk, ReadsOf, WritesOf. No condition. -/
import Derived.Test.YtklmhkckhdmelaaProg
import Derived.Test.YtklmhkckhdmelaaStmtH
import Derived.Test.YtklmhkckhdmelaaStmtI
namespace Go.Proofs.Ytklmhkckhdmelaa
open Go Go.RowKit
theorem ok_plain {op d a b c n : Int} : okI op d a b c n ↔ plainI op d a b c n = ⟨op, d, a, b, c, n⟩ ∧ isReg d ∧ isReg a ∧ isReg b ∧ isReg c ∧
    ((op = 1 ∧ 0 ≤ n ∧ n ≤ 15) ∨ (op = 2 ∧ a < 5 ∧ 0 ≤ n ∧ n ≤ 3) ∨ (op = 12 ∧ 1 ≤ n ∧ n ≤ 8) ∨ (op ≠ 1 ∧ op ≠ 2 ∧ op ≠ 12 ∧ 3 ≤ op ∧ op ≤ 13)) := by
  unfold plainI
  rcases @tyOf_cases op d a b c n with ⟨h, e⟩ | ⟨h, e⟩ | ⟨h, e⟩ | ⟨h, e⟩ | ⟨h, e⟩ | ⟨h, e⟩ | ⟨h, e⟩ | ⟨h, e⟩ <;> rw [e] <;>
    simp [okI, Ty.back, isReg] <;> omega
theorem spec_StmtOk (op d a b c n : Int) (w : World) :
    Calls Try.prog 41 #[.agg #[.int .i64 op, .int .i64 d, .int .i64 a, .int .i64 b, .int .i64 c, .int .i64 n]] w fun e w' => e = .returned (.bool (decide (okI op d a b c n))) ∧ Below w.heap.size w w' := by
  by_cases hp : plainI op d a b c n = ⟨op, d, a, b, c, n⟩
  case neg =>
    rw [decide_eq_false (fun e => hp (ok_plain.1 e).1)]
    exact spec_ok_back op d a b c n hp w
  by_cases hd : isReg d
  case neg =>
    rw [decide_eq_false (fun e => hd (ok_plain.1 e).2.1)]
    exact spec_ok_d op d a b c n hp hd w
  by_cases ha : isReg a
  case neg =>
    rw [decide_eq_false (fun e => ha (ok_plain.1 e).2.2.1)]
    exact spec_ok_a op d a b c n hp hd ha w
  by_cases hb : isReg b
  case neg =>
    rw [decide_eq_false (fun e => hb (ok_plain.1 e).2.2.2.1)]
    exact spec_ok_b op d a b c n hp hd ha hb w
  by_cases hc : isReg c
  case neg =>
    rw [decide_eq_false (fun e => hc (ok_plain.1 e).2.2.2.2.1)]
    exact spec_ok_c op d a b c n hp hd ha hb hc w
  have key : okI op d a b c n ↔ _ := ok_plain
  simp only [hp, hd, ha, hb, hc, true_and] at key
  by_cases h1 : op = 1
  · subst h1
    exact spec_ok_1 d a b c n hp hd ha hb hc _ (by rw [decide_eq_decide, key]; omega) w
  by_cases h2 : op = 2
  · subst h2
    by_cases h5 : a < 5
    · exact spec_ok_2y d a b c n hp hd ha hb hc h5 _ (by rw [decide_eq_decide, key]; omega) w
    · rw [decide_eq_false (fun e => by have := key.1 e; omega)]
      exact spec_ok_2n d a b c n hp hd ha hb hc h5 w
  by_cases h12 : op = 12
  · subst h12
    exact spec_ok_12 d a b c n hp hd ha hb hc _ (by rw [decide_eq_decide, key]; omega) w
  exact spec_ok_x op d a b c n hp hd ha hb hc h1 h2 h12 _ (by rw [decide_eq_decide, key]; omega) w
theorem spec_ReadsOf (op d a b c n : Int) (w : World) :
    Calls Try.prog 42 #[.agg #[.int .i64 op, .int .i64 d, .int .i64 a, .int .i64 b, .int .i64 c, .int .i64 n]] w (MadeI (readsOf op d a b c n) w) := by
  have c1 := spec_StmtOk op d a b c n
  have hbox := heap_alloc_new w (.cells #[.int .i64 op, .int .i64 d, .int .i64 a, .int .i64 b, .int .i64 c, .int .i64 n] 43)
  have k0 := below_alloc w (.cells #[.int .i64 op, .int .i64 d, .int .i64 a, .int .i64 b, .int .i64 c, .int .i64 n] 43)
  by_cases h : okI op d a b c n
  case neg =>
    rw [show readsOf op d a b c n = [] by unfold readsOf; rw [if_neg h]]
    rw [decide_eq_false h] at c1
    clear h hbox
    go_enter Try.func42, Try.ntmps42
    go_wp2_with fail
    refine (c1 _).mono ?_
    rintro e w1 ⟨rfl, hb⟩
    have hb' := k0.trans (hb.mono k0.size)
    go_wp2_with fail
    go_ret
    exact made_lit hb' [] 0 rfl (by omega) rfl _ rfl
  rw [show readsOf op d a b c n = readsI op a b c by unfold readsOf; rw [if_pos h]]
  rw [decide_eq_true h] at c1
  have hr : 1 ≤ op ∧ op ≤ 13 := by unfold okI at h; omega
  clear h
  by_cases h3 : 3 ≤ op ∧ op ≤ 9
  · rw [show readsI op a b c = [a, b] by unfold readsI; rw [if_neg (by omega), if_neg (by omega), if_pos h3]]
    have hin := decide_eq_true h3
    clear h3 hr
    go_enter Try.func42, Try.ntmps42
    go_wp2_with fail
    refine (c1 _).mono ?_
    rintro e w1 ⟨rfl, hb⟩
    have hb' := k0.trans (hb.mono k0.size)
    have hx := heap_below hbox hb
    have k1 := (blk (i := 0) hx rfl).1
    have k2 := (blk (i := 2) hx rfl).1
    have k3 := (blk (i := 3) hx rfl).1
    clear hx hbox hb
    go_wp2_with (first | (go_at_call 55; refine (l01In_is _ _ _ _ (by assumption) _).mono ?_; rintro e w' ⟨rfl, rfl⟩))
    go_ret
    exact made_lit hb' [a, b] 2 rfl (by omega) rfl _ rfl
  · have hin := decide_eq_false h3
    by_cases h10 : op = 10
    · subst h10
      rw [show readsI 10 a b c = [a, b, c] from rfl]
      clear h3 hr
      go_enter Try.func42, Try.ntmps42
      go_wp2_with fail
      refine (c1 _).mono ?_
      rintro e w1 ⟨rfl, hb⟩
      have hb' := k0.trans (hb.mono k0.size)
      have hx := heap_below hbox hb
      have k1 := (blk (i := 0) hx rfl).1
      have k2 := (blk (i := 2) hx rfl).1
      have k3 := (blk (i := 3) hx rfl).1
      have k4 := (blk (i := 4) hx rfl).1
      clear hx hbox hb
      go_wp2_with (first | (go_at_call 55; refine (l01In_is _ _ _ _ (by assumption) _).mono ?_; rintro e w' ⟨rfl, rfl⟩))
      go_ret
      exact made_lit hb' [a, b, c] 3 rfl (by omega) rfl _ rfl
    · by_cases h11 : op = 11
      · subst h11
        rw [show readsI 11 a b c = [a] from rfl]
        clear h3 hr h10
        go_enter Try.func42, Try.ntmps42
        go_wp2_with fail
        refine (c1 _).mono ?_
        rintro e w1 ⟨rfl, hb⟩
        have hb' := k0.trans (hb.mono k0.size)
        have hx := heap_below hbox hb
        have k1 := (blk (i := 0) hx rfl).1
        have k2 := (blk (i := 2) hx rfl).1
        clear hx hbox hb
        go_wp2_with (first | (go_at_call 55; refine (l01In_is _ _ _ _ (by assumption) _).mono ?_; rintro e w' ⟨rfl, rfl⟩))
        go_ret
        exact made_lit hb' [a] 1 rfl (by omega) rfl _ rfl
      · rw [show readsI op a b c = [] by unfold readsI; rw [if_neg h10, if_neg h11, if_neg h3]]
        clear h3 hr
        go_enter Try.func42, Try.ntmps42
        go_wp2_with fail
        refine (c1 _).mono ?_
        rintro e w1 ⟨rfl, hb⟩
        have hb' := k0.trans (hb.mono k0.size)
        have hx := heap_below hbox hb
        have k1 := (blk (i := 0) hx rfl).1
        clear hx hbox hb
        go_wp2_with (first | (go_at_call 55; refine (l01In_is _ _ _ _ (by assumption) _).mono ?_; rintro e w' ⟨rfl, rfl⟩))
        go_ret
        exact made_lit hb' [] 0 rfl (by omega) rfl _ rfl
end Go.Proofs.Ytklmhkckhdmelaa
