/- The size of a block of the model, by the depth. No condition. -/
import Derived.Test.YtklmhkckhdmelaaProg
import Derived.Test.YtklmhkckhdmelaaUnM
import Derived.Test.YtklmhkckhdmelaaPgD
namespace Go.Proofs.Ytklmhkckhdmelaa
open Go Go.RowKit
theorem BlkP.small {ss : List St} {at' h p : Nat} {o : List St} (B : BlkP ss at' h p o) (hn : ss.length ≤ 40) (hh : h ≤ 3) : o.length ≤ 20480 := by
  have h1 := B.len
  have h2 : (p - at') * 8 ^ h ≤ 40 * 8 ^ 3 := Nat.mul_le_mul (by have := B.hi; omega) (Nat.pow_le_pow_right (by omega) hh)
  omega
/-- A block that was read whole: up to its end, or to the end of the list. -/
def Read (ss : List St) (at' h p : Nat) (o : List St) : Prop := BlkP ss at' h p o ∧ (p < ss.length → (ss.getD p s0).op = 13)
set_option maxRecDepth 100000 in
set_option maxHeartbeats 1000000 in
theorem l10Size_at (ss : List St) (A : Option Addr) (n cp : Nat) (hl : ss.length = n) (n40 : n ≤ 40) (h : Nat) (hh : h ≤ 3)
    (hrec : ∀ h', h = h' + 1 → ∀ (x : Nat) (w : World), Ints w A (flat ss) → x ≤ n → runD (ss.drop x) (3 - (h' : Int)) = some 0 →
      Calls Try.prog 68 #[.slice A n cp, .int .i64 (x : Int)] w fun e w' => ∃ (o : List St) (p : Nat), e = .returned (.tuple #[.int .i64 (o.length : Int), .int .i64 (p : Int)]) ∧ Hid (Read ss x h' p o) ∧ w = w')
    (x : Nat) (w : World) (hr : Ints w A (flat ss)) (hx : x ≤ n) (hrun : runD (ss.drop x) (3 - (h : Int)) = some 0) :
    Calls Try.prog 68 #[.slice A n cp, .int .i64 (x : Int)] w fun e w' => ∃ (o : List St) (p : Nat), e = .returned (.tuple #[.int .i64 (o.length : Int), .int .i64 (p : Int)]) ∧ Hid (Read ss x h p o) ∧ w = w' := by
  have Hl := Lib.hid hl
  have HB := Lib.hid (BlkP.start (by omega) hrun)
  have Hrec := Lib.hid hrec
  clear hl hrun hrec
  go_enter Try.func68, Try.ntmps68
  go_wp2_with fail
  go_loop [1, 6] (fun av sv => ∃ (p : Nat) (o : List St), p ≤ n ∧ av = .int .i64 p ∧ sv = .int .i64 (o.length : Int) ∧ Hid (BlkP ss x h p o)) (fun av _ => n - (intOf av).toNat)
  case atStart => exact ⟨x, [], hx, rfl, rfl, HB⟩
  case round =>
    obtain ⟨p, o, hp, rfl, rfl, hB⟩ := hrel
    clear HB
    have hsm := hB.out.small (by have := Hl.out; omega) hh
    have p0 : (0 : Int) ≤ p := by omega
    by_cases hlt : p < n
    · rcases hs : ss.getD p s0 with ⟨op, d, a, b, c, m⟩
      have hlk : p < ss.length := by rw [Hl.out]; exact hlt
      obtain ⟨g, oo, rfl, -, q0, q1, q2, q3, q4, q5⟩ := cell6 hr.bound hlk hs
      have p1 : (p : Int) < n := by omega
      have hcase : op = 13 ∨ op = 12 ∨ (op ≠ 12 ∧ op ≠ 13) := by omega
      rcases hcase with rfl | rfl | ⟨h12, h13⟩
      · have HR : Hid (Read ss x h p o) := Lib.hid ⟨hB.out, fun _ => by rw [hs]⟩
        clear hB hs hr Hrec q1 q2 q3 q4 q5
        go_wp2_with fail
        go_returns
        exact ⟨o, p, rfl, HR, rfl⟩
      · obtain ⟨h', rfl, hm1, hm8, hrn⟩ := hB.out.deeper hlk hs rfl
        have c1 := Hrec.out h' rfl (p + 1) w hr (by omega) hrn
        have HN := Lib.hid (fun (q : Nat) (t : List St) (r : Read ss (p + 1) h' q t) => (show q < ss.length ∧ BlkP ss x (h' + 1) (q + 1) (o ++ rep m.toNat t) ∧ p < q ∧ t.length ≤ 20480 from by
          have hq := r.1.open_ (by omega)
          rcases hs' : ss.getD q s0 with ⟨op', d', a', b', c', m'⟩
          have h13 := r.2 hq
          rw [hs'] at h13
          exact ⟨hq, hB.out.loop hlk hs rfl r.1 hq hs' h13 ⟨hm1, hm8⟩, by have := r.1.lo; omega, r.1.small (by have := Hl.out; omega) (by omega)⟩))
        clear hB hs hr Hrec hrn q1 q2 q3 q4
        rw [Int.natCast_succ] at c1
        go_wp2_with fail
        refine c1.mono ?_
        rintro e w2 ⟨t, q, rfl, hRd, rfl⟩
        obtain ⟨hq, hB2, hpq, ht⟩ := HN.out q t hRd.out
        have HB2 := Lib.hid hB2
        have hqn : q < n := by have := Hl.out; omega
        have Hnew : Hid (((o ++ rep m.toNat t).length : Int) = (o.length : Int) + (t.length : Int) * m) := by
          rw [List.length_append, rep_length]
          push_cast
          rw [Int.toNat_of_nonneg (by omega), Int.mul_comm]
          exact Lib.hid rfl
        have o0 : (0 : Int) ≤ (o.length : Int) := by omega
        have o1 : (o.length : Int) ≤ 20480 := by omega
        generalize (o.length : Int) = O at *
        generalize hT : (t.length : Int) = T at *
        have t0 : 0 ≤ T := by omega
        have t1 : T ≤ 20480 := by omega
        have hy0 : 0 ≤ T * m := Int.mul_nonneg t0 (by omega)
        have hy1 : T * m ≤ 163840 := by
          have : T * m ≤ 20480 * 8 := Int.mul_le_mul t1 hm8 (by omega) (by omega)
          omega
        clear hB2 hRd HN hT c1
        go_wp2_with fail
        go_round
        case rel => exact ⟨q + 1, _, by omega, by go_num, by rw [Hnew.out], HB2⟩
        case measure => simp [intOf]; omega
      · have HB2 := Lib.hid (hB.out.plain hlk hs h12 h13)
        have Hsz : Hid (((o ++ [(⟨op, d, a, b, c, m⟩ : St)]).length : Int) = (o.length : Int) + 1) := by
          rw [List.length_append]
          exact Lib.hid (by simp)
        clear hB hs hr Hrec q1 q2 q3 q4 q5
        go_wp2_with fail
        go_round
        case rel => exact ⟨p + 1, _, by omega, by go_num, by rw [← Hsz.out], HB2⟩
        case measure => simp [intOf]; omega
    · obtain rfl : p = n := by omega
      have HR : Hid (Read ss x h p o) := Lib.hid ⟨hB.out, fun h => by have := Hl.out; omega⟩
      clear hB hr Hrec
      go_wp2_with fail
      go_returns
      exact ⟨o, p, rfl, HR, rfl⟩
theorem l10Size_all (ss : List St) (A : Option Addr) (n cp : Nat) (hl : ss.length = n) (n40 : n ≤ 40) : ∀ (h : Nat), h ≤ 3 → ∀ (x : Nat) (w : World), Ints w A (flat ss) → x ≤ n → runD (ss.drop x) (3 - (h : Int)) = some 0 →
      Calls Try.prog 68 #[.slice A n cp, .int .i64 (x : Int)] w fun e w' => ∃ (o : List St) (p : Nat), e = .returned (.tuple #[.int .i64 (o.length : Int), .int .i64 (p : Int)]) ∧ Hid (Read ss x h p o) ∧ w = w' := by
  intro h
  induction h with
  | zero => exact fun hh x w hr hx hrun => l10Size_at ss A n cp hl n40 0 hh (fun h' e => by omega) x w hr hx hrun
  | succ h ih => exact fun hh x w hr hx hrun => l10Size_at ss A n cp hl n40 (h + 1) hh (fun h' e => by
      obtain rfl : h' = h := by omega
      exact ih (by omega)) x w hr hx hrun
/-- The whole program. -/
theorem l10Size_prog (ss : List St) (A : Option Addr) (n cp : Nat) (w : World) (hr : Ints w A (flat ss)) (hl : ss.length = n) (hp : progI ss) :
    Calls Try.prog 68 #[.slice A n cp, .int .i64 0] w fun e w' => e = .returned (.tuple #[.int .i64 ((unrollL ss).length : Int), .int .i64 (n : Int)]) ∧ w = w' := by
  refine (l10Size_all ss A n cp hl (by have := hp.1; omega) 3 (by omega) 0 w hr (by omega) (by rw [List.drop_zero]; exact hp.2)).mono ?_
  rintro e w' ⟨o, p, rfl, hR, rfl⟩
  obtain ⟨rfl, rfl⟩ := hR.out.1.all hR.out.2
  exact ⟨by rw [hl], rfl⟩
end Go.Proofs.Ytklmhkckhdmelaa
