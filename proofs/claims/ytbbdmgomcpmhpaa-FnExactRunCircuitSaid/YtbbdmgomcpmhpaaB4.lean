/- The program's StmtOk, ReadsOf, WritesOf. No condition. And what goes with it. -/
import Derived.Test.YtbbdmgomcpmhpaaProg
import Derived.Test.YtbbdmgomcpmhpaaCX2
import Derived.Test.YtbbdmgomcpmhpaaB2
namespace Go.Proofs.Ytbbdmgomcpmhpaa
open Go Go.RowKit
def newV (op d a b c n : Int) : Option Ty := if okI op d a b c n then tyOf op d a b c n else none
theorem newV_cases (op d a b c n : Int) : (¬ okI op d a b c n ∧ newV op d a b c n = none) ∨ ∃ t, okI op d a b c n ∧ newV op d a b c n = some t ∧ t.reads = readsI op a b c ∧ t.back.op = op ∧ (t.sets = true → t.dst = d ∧ op ≤ 10) ∧ (t.sets = false → ¬ op ≤ 10) ∧ (t.sets = true ∨ t.sets = false) ∧ tyOf op d a b c n = some t := by
  unfold newV
  by_cases h : okI op d a b c n
  · right
    obtain ⟨t, ht, hb, _⟩ := ok_of.1 h
    refine ⟨t, h, by rw [if_pos h, ht], ?_⟩
    rcases @tyOf_cases op d a b c n with ⟨h, e⟩ | ⟨h, e⟩ | ⟨h, e⟩ | ⟨h, e⟩ | ⟨h, e⟩ | ⟨h, e⟩ | ⟨h, e⟩ | ⟨h, e⟩ <;> rw [e] at ht <;> cases ht
    all_goals first
      | (subst h; simp [Ty.reads, readsI, Ty.back, Ty.sets, Ty.dst, e]; done)
      | (have h10 : op ≤ 10 := by omega
         refine ⟨?_, rfl, fun _ => ⟨rfl, h10⟩, (fun h => Bool.noConfusion h), Or.inl rfl, e⟩
         unfold readsI
         rw [if_neg (by omega), if_neg (by omega), if_pos h]
         rfl)
  · exact .inl ⟨h, by rw [if_neg h]⟩
theorem impl_newStatement (op d a b c n : Int) (w : World) :
    Calls Try.prog 79 #[.agg #[.int .i64 op, .int .i64 d, .int .i64 a, .int .i64 b, .int .i64 c, .int .i64 n]] w fun e w' => e = .returned (usedV (newV op d a b c n)) ∧ Below w.heap.size w w' := by
  unfold newV
  by_cases h : okI op d a b c n
  · rw [if_pos h]
    obtain ⟨t, ht, hb, hr, hn⟩ := ok_of.1 h
    rw [ht]
    exact impl_new_yes op d a b c n t ht hb hr hn w
  · rw [if_neg h]
    rcases ht : tyOf op d a b c n with _ | t
    · exact impl_new_none op d a b c n ht w
    · by_cases hb : t.back = ⟨op, d, a, b, c, n⟩
      · by_cases hr : t.regs
        · by_cases hn : t.nums
          · exact absurd (ok_of.2 ⟨t, ht, hb, hr, hn⟩) h
          · exact impl_new_nums op d a b c n t ht hb hr hn w
        · exact impl_new_regs op d a b c n t ht hb hr w
      · exact impl_new_back op d a b c n t ht hb w
end Go.Proofs.Ytbbdmgomcpmhpaa

namespace Go.Proofs.Ytbbdmgomcpmhpaa
open Go Go.RowKit
theorem ty_op {op d a b c n : Int} {t : Ty} (h : tyOf op d a b c n = some t) : (op = 12 ∧ ∃ z, t = .rep z) ∨ (op = 13 ∧ t = .fin) ∨ (op ≠ 12 ∧ op ≠ 13 ∧ (∀ z, t ≠ .rep z) ∧ t ≠ .fin) := by
  rcases @tyOf_cases op d a b c n with ⟨h', e⟩ | ⟨h', e⟩ | ⟨h', e⟩ | ⟨h', e⟩ | ⟨h', e⟩ | ⟨h', e⟩ | ⟨h', e⟩ | ⟨h', e⟩ <;> rw [e] at h <;> cases h
  case inr.inr.inr.inr.inr.inl => exact .inl ⟨h', _, rfl⟩
  case inr.inr.inr.inr.inr.inr.inl => exact .inr (.inl ⟨h', rfl⟩)
  all_goals exact .inr (.inr ⟨by omega, by omega, (fun z h => by cases h), (fun h => by cases h)⟩)
/-- Is the interface value a loop, an end? -/
theorem as_rep_fin {op d a b c n : Int} {t : Ty} (h : tyOf op d a b c n = some t) : ∃ g1 g2 : Value,
    (∀ w, (Instr.typeAssert t.v 63 107 true).run Try.prog w = .ok (.tuple #[g1, .bool (decide (op = 12))]) w) ∧ (∀ w, (Instr.typeAssert t.v 63 109 true).run Try.prog w = .ok (.tuple #[g2, .bool (decide (op = 13))]) w) := by
  have h1 := as_rep t
  have h2 := as_fin t
  rcases ty_op h with ⟨rfl, z, rfl⟩ | ⟨rfl, rfl⟩ | ⟨n12, n13, h3, h4⟩
  · exact ⟨_, _, h1, h2⟩
  · exact ⟨_, _, h1, h2⟩
  · rw [decide_eq_false n12, decide_eq_false n13]
    cases t <;> first | exact ⟨_, _, h1, h2⟩ | exact absurd rfl (h3 _) | exact absurd rfl h4
/-- One round of the loop: what is left to say of the statements behind it. -/
theorem new_any (op d a b c n : Int) : (¬ okI op d a b c n ∧ newV op d a b c n = none) ∨ ∃ t, okI op d a b c n ∧ newV op d a b c n = some t ∧ tyOf op d a b c n = some t := by
  rcases newV_cases op d a b c n with h | ⟨t, h1, h2, _, _, _, _, _, h3⟩
  · exact .inl h
  · exact .inr ⟨t, h1, h2, h3⟩
set_option maxRecDepth 100000 in
set_option maxHeartbeats 3000000 in
theorem impl_ProgramOk (A : Option Addr) (n cp : Nat) (ss : List St) (w : World) (hr : Ints w A (flat ss)) (hl : ss.length = n) (hn : n ≤ 2000000) :
    Calls Try.prog 58 #[.slice A n cp] w fun e w' => e = .returned (.bool (decide (progI ss))) ∧ Below w.heap.size w w' := by
  by_cases h40 : n ≤ 40
  case neg =>
    rw [decide_eq_false (fun e => h40 (by have := e.1; omega))]
    have h41 : (40 : Int) < n := by omega
    clear hr
    go_enter Try.func58, Try.ntmps58
    go_wp2_with fail
    go_ret
    exact ⟨rfl, Below.refl _ _⟩
  rw [show decide (progI ss) = decide (runD ss 0 = some 0) by rw [decide_eq_decide]; exact ⟨fun e => e.2, fun e => ⟨by omega, e⟩⟩]
  have Hl := Lib.hid hl
  have Hstart : Hid (runD ss 0 = runD (ss.drop 0) 0) := by rw [List.drop_zero]; exact Lib.hid rfl
  have h41 : (n : Int) ≤ 40 := by omega
  clear hl
  go_enter Try.func58, Try.ntmps58
  go_wp2_with fail
  go_loopw [3, 13] (fun dv i wr => ∃ (k : Nat) (D : Int), k ≤ n ∧ i = .int .i64 k ∧ dv = .int .i64 D ∧ 0 ≤ D ∧ D ≤ 3 ∧ Hid (runD ss 0 = runD (ss.drop k) D) ∧ Below w.heap.size w wr) (fun _ i _ => n - (intOf i).toNat)
  case atStart => exact ⟨0, 0, Nat.zero_le _, rfl, rfl, by omega, by omega, Hstart, Below.refl _ _⟩
  case round =>
    obtain ⟨k, D, hk, rfl, rfl, hD0, hD3, hrun, hb⟩ := hrel
    clear Hstart
    by_cases hlt : k < n
    · rcases hs : ss.getD k s0 with ⟨op, d, a, b, c, m⟩
      obtain ⟨g, o, rfl, hbl, q0, q1, q2, q3, q4, q5⟩ := cell6 (hr.bound.below hb) (by rw [Hl.out]; exact hlt) hs
      have hstep := runD_step (D := D) (by rw [Hl.out]; exact hlt) hs
      have k0 : (0 : Int) ≤ k := by omega
      have k1 : (k : Int) < n := by omega
      have c1 := impl_newStatement op d a b c m
      clear hs hr
      rcases new_any op d a b c m with ⟨ho, e⟩ | ⟨t, ho, e, ht⟩
      · rw [if_neg (fun h => ho h.1)] at hstep
        have Hno := Lib.hid (show decide (runD ss 0 = some 0) = false by rw [hrun.out, hstep]; rfl)
        rw [e] at c1
        simp only [usedV] at c1
        clear hstep hrun ho e
        go_wp2_with fail
        refine (c1 _).mono ?_
        rintro e w2 ⟨rfl, hb2⟩
        have hb3 := (low_alloc hb (.cells #[.int .i64 op, .int .i64 d, .int .i64 a, .int .i64 b, .int .i64 c, .int .i64 m] 56)).trans (hb2.mono (low_alloc hb _).size)
        clear hb2 hb q0 q1 q2 q3 q4 q5
        go_wp2_with fail
        go_ret
        exact ⟨ret_bool Hno.out.symm, hb3⟩
      · have hop := ok_op ho
        have hdl : (if op = 12 then (1 : Int) else if op = 13 then -1 else 0) = dl op := rfl
        obtain ⟨g1, g2, h1, h2⟩ := as_rep_fin ht
        rw [e] at c1
        simp only [usedV] at c1
        generalize t.v = v at c1 h1 h2
        clear e ht
        by_cases hr2 : 0 ≤ D + dl op ∧ D + dl op ≤ 3
        · rw [if_pos ⟨ho, hr2.1, hr2.2⟩] at hstep
          have Hnx : Hid (runD ss 0 = runD (ss.drop (k + 1)) (D + dl op)) := Lib.hid (hrun.out.trans hstep)
          have hin := decide_eq_true hr2
          have c2 := impl_inRange (D + dl op) 0 3 (by omega)
          rw [hin] at c2
          clear hstep hrun ho hin
          by_cases h12 : op = 12
          · skip
            rw [decide_eq_true h12] at h1
            rw [show dl op = 1 by unfold dl; rw [if_pos h12]] at *
            clear hdl h12 hop h2
            go_wp2_with fail
            refine (c1 _).mono ?_
            rintro e w2 ⟨rfl, hb2⟩
            have hb3 := (low_alloc hb (.cells #[.int .i64 op, .int .i64 d, .int .i64 a, .int .i64 b, .int .i64 c, .int .i64 m] 56)).trans (hb2.mono (low_alloc hb _).size)
            clear hb2 hb q0 q1 q2 q3 q4 q5
            go_wp2_with fail
            refine (c2 _).mono ?_
            rintro e w3 ⟨rfl, rfl⟩
            go_wp2_with fail
            go_roundw
            case rel => exact ⟨k + 1, D + 1, by omega, by go_num, rfl, by omega, by omega, Hnx, hb3⟩
            case measure => simp [intOf]; omega
          rw [decide_eq_false h12] at h1
          by_cases h13 : op = 13
          · skip
            rw [decide_eq_true h13] at h2
            rw [show dl op = -1 by unfold dl; rw [if_neg h12, if_pos h13]] at *
            rw [show D + -1 = D - 1 by omega] at *
            clear hdl h12 h13 hop
            go_wp2_with fail
            refine (c1 _).mono ?_
            rintro e w2 ⟨rfl, hb2⟩
            have hb3 := (low_alloc hb (.cells #[.int .i64 op, .int .i64 d, .int .i64 a, .int .i64 b, .int .i64 c, .int .i64 m] 56)).trans (hb2.mono (low_alloc hb _).size)
            clear hb2 hb q0 q1 q2 q3 q4 q5
            go_wp2_with fail
            refine (c2 _).mono ?_
            rintro e w3 ⟨rfl, rfl⟩
            go_wp2_with fail
            go_roundw
            case rel => exact ⟨k + 1, D - 1, by omega, by go_num, rfl, by omega, by omega, Hnx, hb3⟩
            case measure => simp [intOf]; omega
          · skip
            rw [decide_eq_false h13] at h2
            rw [show dl op = 0 by unfold dl; rw [if_neg h12, if_neg h13]] at *
            rw [Int.add_zero] at *
            clear hdl h12 h13 hop
            go_wp2_with fail
            refine (c1 _).mono ?_
            rintro e w2 ⟨rfl, hb2⟩
            have hb3 := (low_alloc hb (.cells #[.int .i64 op, .int .i64 d, .int .i64 a, .int .i64 b, .int .i64 c, .int .i64 m] 56)).trans (hb2.mono (low_alloc hb _).size)
            clear hb2 hb q0 q1 q2 q3 q4 q5
            go_wp2_with fail
            refine (c2 _).mono ?_
            rintro e w3 ⟨rfl, rfl⟩
            go_wp2_with fail
            go_roundw
            case rel => exact ⟨k + 1, D, by omega, by go_num, rfl, by omega, by omega, Hnx, hb3⟩
            case measure => simp [intOf]; omega
        · rw [if_neg (fun h => hr2 h.2)] at hstep
          have Hno := Lib.hid (show decide (runD ss 0 = some 0) = false by rw [hrun.out, hstep]; rfl)
          have hin := decide_eq_false hr2
          have c2 := impl_inRange (D + dl op) 0 3 (by omega)
          rw [hin] at c2
          clear hstep hrun ho hin
          by_cases h12 : op = 12
          · skip
            rw [decide_eq_true h12] at h1
            rw [show dl op = 1 by unfold dl; rw [if_pos h12]] at *
            clear hdl h12 hop h2
            go_wp2_with fail
            refine (c1 _).mono ?_
            rintro e w2 ⟨rfl, hb2⟩
            have hb3 := (low_alloc hb (.cells #[.int .i64 op, .int .i64 d, .int .i64 a, .int .i64 b, .int .i64 c, .int .i64 m] 56)).trans (hb2.mono (low_alloc hb _).size)
            clear hb2 hb q0 q1 q2 q3 q4 q5
            go_wp2_with fail
            refine (c2 _).mono ?_
            rintro e w3 ⟨rfl, rfl⟩
            go_wp2_with fail
            go_ret
            exact ⟨ret_bool Hno.out.symm, hb3⟩
          rw [decide_eq_false h12] at h1
          by_cases h13 : op = 13
          · skip
            rw [decide_eq_true h13] at h2
            rw [show dl op = -1 by unfold dl; rw [if_neg h12, if_pos h13]] at *
            rw [show D + -1 = D - 1 by omega] at *
            clear hdl h12 h13 hop
            go_wp2_with fail
            refine (c1 _).mono ?_
            rintro e w2 ⟨rfl, hb2⟩
            have hb3 := (low_alloc hb (.cells #[.int .i64 op, .int .i64 d, .int .i64 a, .int .i64 b, .int .i64 c, .int .i64 m] 56)).trans (hb2.mono (low_alloc hb _).size)
            clear hb2 hb q0 q1 q2 q3 q4 q5
            go_wp2_with fail
            refine (c2 _).mono ?_
            rintro e w3 ⟨rfl, rfl⟩
            go_wp2_with fail
            go_ret
            exact ⟨ret_bool Hno.out.symm, hb3⟩
          · skip
            rw [decide_eq_false h13] at h2
            rw [show dl op = 0 by unfold dl; rw [if_neg h12, if_neg h13]] at *
            rw [Int.add_zero] at *
            exact absurd ⟨hD0, hD3⟩ hr2
    · obtain rfl : k = n := by omega
      have hend := runD_end ss D
      rw [Hl.out, ← hrun.out] at hend
      have Hr := Lib.hid (show decide (D = 0) = decide (runD ss 0 = some 0) by rw [hend, decide_eq_decide]; simp)
      clear hend hrun hr
      go_wp2_with fail
      go_ret
      exact ⟨ret_bool (by rw [← Hr.out]; first | rfl | simp), hb⟩
end Go.Proofs.Ytbbdmgomcpmhpaa
