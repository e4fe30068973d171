/- InputZero, the program's and the model's; bits of labels. No condition. -/
import Derived.Test.YtfpcjgolcbjnjaaProg
import Derived.Test.YtfpcjgolcbjnjaaGbP
import Derived.Test.YtfpcjgolcbjnjaaLab
import Derived.Test.YtfpcjgolcbjnjaaTapeX
namespace Go.Proofs.Ytfpcjgolcbjnjaa
open Go Go.RowKit
theorem iz_is {s a k : Int} (h : forkOk s a k) : izI s a k = tbI (tfI s a k) 0 65536 := if_pos h
set_option maxRecDepth 100000 in
theorem spec_InputZero (s a k : Int) (w : World) :
    Calls Try.prog 20 #[.agg #[.int .i64 s, .int .i64 a], .int .i64 k] w fun e w' => e = .returned (.int .i64 (izI s a k)) ∧ Below w.heap.size w w' := by
  have k0 := Kept.start w 29 (.int .i64 s) (.int .i64 a)
  by_cases hs : isTape s a
  case neg =>
    have hok := decide_eq_false hs
    rw [show izI s a k = -1 from if_neg (fun h => hs h.1)]
    clear hs
    go_enter Try.func20, Try.ntmps20
    go_wp2_with fail
    refine (spec_TapeOk s a _).mono ?_
    rw [hok]
    rintro e w1 ⟨rfl, hb1⟩
    have k1 := k0.next hb1
    go_wp2_with fail
    go_ret
    exact ⟨rfl, k1.low⟩
  have hok := decide_eq_true hs
  by_cases hn : 0 ≤ k ∧ k ≤ 1000000
  case neg =>
    have hbn := decide_eq_false hn
    rw [show izI s a k = -1 from if_neg (fun h => hn h.2)]
    clear hs hn
    go_enter Try.func20, Try.ntmps20
    go_wp2_with fail
    refine (spec_TapeOk s a _).mono ?_
    rw [hok]
    rintro e w1 ⟨rfl, hb1⟩
    have k1 := k0.next hb1
    go_wp2_with fail
    refine (l01In_is k 0 1000000 false hbn _).mono ?_
    rintro e w2 ⟨rfl, rfl⟩
    go_wp2_with fail
    go_ret
    exact ⟨rfl, k1.low⟩
  have hbn := decide_eq_true hn
  rw [iz_is ⟨hs, hn⟩]
  have cF := spec_TapeFork s a k
  obtain ⟨f, hf⟩ : ∃ f, tfI s a k = f := ⟨_, rfl⟩
  rw [hf] at cF ⊢
  clear hs hn hf
  go_enter Try.func20, Try.ntmps20
  go_wp2_with fail
  refine (spec_TapeOk s a _).mono ?_
  rw [hok]
  rintro e w1 ⟨rfl, hb1⟩
  have k1 := k0.next hb1
  clear k0 hb1
  go_wp2_with fail
  refine (l01In_is k 0 1000000 true hbn _).mono ?_
  rintro e w2 ⟨rfl, rfl⟩
  obtain ⟨c0, c1, _, _⟩ := box2 k1.arg
  go_wp2_with fail
  refine (cF _).mono ?_
  rintro e w2 ⟨rfl, hb2⟩
  have k2 := k1.next hb2
  clear k1 hb2 c0 c1
  go_wp2_with fail
  refine (spec_TapeBelow f 0 65536 _).mono ?_
  rintro e w3 ⟨rfl, hb3⟩
  have k3 := k2.next hb3
  clear k2 hb3
  go_wp2_with fail
  go_ret
  exact ⟨rfl, low_alloc k3.low _⟩
set_option maxRecDepth 100000 in
theorem impl_InputZero (s a k : Int) (w : World) :
    Calls Try.prog 15 #[.agg #[.int .i64 s, .int .i64 a], .int .i64 k] w fun e w' => e = .returned (.int .i64 (izI s a k)) ∧ Below w.heap.size w w' := by
  have k0 := Kept.start w 29 (.int .i64 s) (.int .i64 a)
  by_cases hs : isTape s a
  case neg =>
    have hok := decide_eq_false hs
    rw [show izI s a k = -1 from if_neg (fun h => hs h.1)]
    clear hs
    go_enter Try.func15, Try.ntmps15
    go_wp2_with fail
    refine (impl_TapeOk s a _).mono ?_
    rw [hok]
    rintro e w1 ⟨rfl, hb1⟩
    have k1 := k0.next hb1
    go_wp2_with fail
    go_ret
    exact ⟨rfl, k1.low⟩
  have hok := decide_eq_true hs
  have cR := impl_inRange k 0 1000000 (by omega)
  by_cases hn : 0 ≤ k ∧ k ≤ 1000000
  case neg =>
    rw [decide_eq_false hn] at cR
    rw [show izI s a k = -1 from if_neg (fun h => hn h.2)]
    clear hs hn
    go_enter Try.func15, Try.ntmps15
    go_wp2_with fail
    refine (impl_TapeOk s a _).mono ?_
    rw [hok]
    rintro e w1 ⟨rfl, hb1⟩
    have k1 := k0.next hb1
    go_wp2_with fail
    refine (cR _).mono ?_
    rintro e w2 ⟨rfl, rfl⟩
    go_wp2_with fail
    go_ret
    exact ⟨rfl, k1.low⟩
  rw [decide_eq_true hn] at cR
  rw [iz_is ⟨hs, hn⟩]
  have cF := impl_TapeFork s a k
  obtain ⟨f, hf⟩ : ∃ f, tfI s a k = f := ⟨_, rfl⟩
  rw [hf] at cF ⊢
  clear hs hn hf
  go_enter Try.func15, Try.ntmps15
  go_wp2_with fail
  refine (impl_TapeOk s a _).mono ?_
  rw [hok]
  rintro e w1 ⟨rfl, hb1⟩
  have k1 := k0.next hb1
  clear k0 hb1
  go_wp2_with fail
  refine (cR _).mono ?_
  rintro e w2 ⟨rfl, rfl⟩
  obtain ⟨c0, c1, _, _⟩ := box2 k1.arg
  go_wp2_with fail
  refine (cF _).mono ?_
  rintro e w2 ⟨rfl, hb2⟩
  have k2 := k1.next hb2
  clear k1 hb2 c0 c1
  go_wp2_with fail
  refine (impl_TapeBelow f 0 65536 _).mono ?_
  rintro e w3 ⟨rfl, hb3⟩
  have k3 := k2.next hb3
  clear k2 hb3
  go_wp2_with fail
  go_ret
  exact ⟨rfl, low_alloc k3.low _⟩
theorem spec_l18If (b x : Int) (w : World) :
    Calls Try.prog 71 #[.int .i64 b, .int .i64 x] w fun e w' => e = .returned (.int .i64 (ifI b x)) ∧ w = w' := by
  by_cases h : b = 1
  · have hb := beq_iff_eq.2 h
    rw [show ifI b x = x from if_pos h]
    clear h
    go_enter Try.func71, Try.ntmps71
    go_wp2_with fail
    go_ret
    exact ⟨rfl, rfl⟩
  · have hb : (b == 1) = false := beq_eq_false_iff_ne.2 h
    rw [show ifI b x = 0 from if_neg h]
    clear h
    go_enter Try.func71, Try.ntmps71
    go_wp2_with fail
    go_ret
    exact ⟨rfl, rfl⟩
theorem impl_permuteBit (x : Int) (w : World) :
    Calls Try.prog 88 #[.int .i64 x] w fun e w' => e = .returned (.int .i64 (x % 2)) ∧ w = w' := by
  go_enter Try.func88, Try.ntmps88
  go_wp2_with fail
  go_ret
  exact ⟨ret_int (i64_and_one x), rfl⟩
theorem impl_ifPermuted (x m : Int) (hm : isLbl m) (w : World) :
    Calls Try.prog 119 #[.int .i64 x, .int .i64 m] w fun e w' => e = .returned (.int .i64 (ifI (x % 2) m)) ∧ w = w' := by
  unfold isLbl at hm
  unfold ifI
  rcases (show x % 2 = 0 ∨ x % 2 = 1 by omega) with h | h
  · have cP := impl_permuteBit x
    rw [h] at cP ⊢
    clear h
    go_enter Try.func119, Try.ntmps119
    go_wp2_with fail
    refine (cP _).mono ?_
    rintro e w1 ⟨rfl, rfl⟩
    go_wp2_with fail
    go_ret
    exact ⟨ret_int (by simp), rfl⟩
  · have cP := impl_permuteBit x
    rw [h] at cP ⊢
    clear h
    go_enter Try.func119, Try.ntmps119
    go_wp2_with fail
    refine (cP _).mono ?_
    rintro e w1 ⟨rfl, rfl⟩
    go_wp2_with fail
    go_ret
    exact ⟨ret_int (by simp), rfl⟩
theorem impl_notLabel (x : Int) (w : World) :
    Calls Try.prog 105 #[.int .i64 x] w fun e w' => e = .returned (.bool (!decide (isLbl x))) ∧ w = w' := by
  obtain ⟨b, hb⟩ : ∃ b, decide (isLbl x) = b := ⟨_, rfl⟩
  rw [hb]
  go_enter Try.func105, Try.ntmps105
  go_wp2_with fail
  refine (impl_IsLabel_is x b hb w).mono ?_
  clear hb
  rintro e w1 ⟨rfl, rfl⟩
  go_wp2_with fail
  go_ret
  exact ⟨rfl, rfl⟩
theorem impl_firstHash (n : Int) (h : 0 ≤ n ∧ n ≤ 1000000) (w : World) :
    Calls Try.prog 117 #[.int .i64 n] w fun e w' => e = .returned (.int .i64 (2 * n)) ∧ w = w' := by
  go_enter Try.func117, Try.ntmps117
  go_wp2_with fail
  go_ret
  exact ⟨rfl, rfl⟩
theorem impl_secondHash (n : Int) (h : 0 ≤ n ∧ n ≤ 1000000) (w : World) :
    Calls Try.prog 118 #[.int .i64 n] w fun e w' => e = .returned (.int .i64 (2 * n + 1)) ∧ w = w' := by
  go_enter Try.func118, Try.ntmps118
  go_wp2_with fail
  go_ret
  exact ⟨rfl, rfl⟩
end Go.Proofs.Ytfpcjgolcbjnjaa
