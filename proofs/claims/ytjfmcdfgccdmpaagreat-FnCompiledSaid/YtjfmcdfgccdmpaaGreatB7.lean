/- The size of a block of the model, by the depth. No condition. And what goes with it. -/
import Derived.Test.YtjfmcdfgccdmpaaGreatProg
import Derived.Test.YtjfmcdfgccdmpaaGreatB6
import Derived.Test.YtjfmcdfgccdmpaaGreatB5
import Derived.Test.YtjfmcdfgccdmpaaGreatPgS
namespace Go.Proofs.YtjfmcdfgccdmpaaGreat
open Go Go.RowKit
theorem BlkP.small {ss : List St} {at' h p : Nat} {o : List St} (B : BlkP ss at' h p o) (hn : ss.length ≤ 40) (hh : h ≤ 3) : o.length ≤ 20480 := by
  have h1 := B.len
  have h2 : (p - at') * 8 ^ h ≤ 40 * 8 ^ 3 := Nat.mul_le_mul (by have := B.hi; omega) (Nat.pow_le_pow_right (by omega) hh)
  omega
/-- A block that was read whole: up to its end, or to the end of the list. -/
def Read (ss : List St) (at' h p : Nat) (o : List St) : Prop := BlkP ss at' h p o ∧ (p < ss.length → (ss.getD p s0).op = 13)
set_option maxRecDepth 100000 in
set_option maxHeartbeats 1000000 in
theorem l10Size_at (ss : List St) (A : Option Addr) (n cp : Nat) (hl : ss.length = n) (n40 : n ≤ 40) (h : Nat) (hh : h ≤ 3)
    (hrec : ∀ h', h = h' + 1 → ∀ (x : Nat) (w : World), Ints w A (flat ss) → x ≤ n → runD (ss.drop x) (3 - (h' : Int)) = some 0 →
      Calls Tryz.prog 62 #[.slice A n cp, .int .i64 (x : Int)] w fun e w' => ∃ (o : List St) (p : Nat), e = .returned (.tuple #[.int .i64 (o.length : Int), .int .i64 (p : Int)]) ∧ Hid (Read ss x h' p o) ∧ w = w')
    (x : Nat) (w : World) (hr : Ints w A (flat ss)) (hx : x ≤ n) (hrun : runD (ss.drop x) (3 - (h : Int)) = some 0) :
    Calls Tryz.prog 62 #[.slice A n cp, .int .i64 (x : Int)] w fun e w' => ∃ (o : List St) (p : Nat), e = .returned (.tuple #[.int .i64 (o.length : Int), .int .i64 (p : Int)]) ∧ Hid (Read ss x h p o) ∧ w = w' := by
  have Hl := Lib.hid hl
  have HB := Lib.hid (BlkP.start (by omega) hrun)
  have Hrec := Lib.hid hrec
  clear hl hrun hrec
  go_enter Tryz.func62, Tryz.ntmps62
  go_wp2_with fail
  go_loop [1, 6] (fun av sv => ∃ (p : Nat) (o : List St), p ≤ n ∧ av = .int .i64 p ∧ sv = .int .i64 (o.length : Int) ∧ Hid (BlkP ss x h p o)) (fun av _ => n - (intOf av).toNat)
  case atStart => exact ⟨x, [], hx, rfl, rfl, HB⟩
  case round =>
    obtain ⟨p, o, hp, rfl, rfl, hB⟩ := hrel
    clear HB
    have hsm := hB.out.small (by have := Hl.out; omega) hh
    have p0 : (0 : Int) ≤ p := by omega
    by_cases hlt : p < n
    · rcases hs : ss.getD p s0 with ⟨op, d, a, b, c, m⟩
      have hlk : p < ss.length := by rw [Hl.out]; exact hlt
      obtain ⟨g, oo, rfl, -, q0, q1, q2, q3, q4, q5⟩ := cell6 hr.bound hlk hs
      have p1 : (p : Int) < n := by omega
      have hcase : op = 13 ∨ op = 12 ∨ (op ≠ 12 ∧ op ≠ 13) := by omega
      rcases hcase with rfl | rfl | ⟨h12, h13⟩
      · have HR : Hid (Read ss x h p o) := Lib.hid ⟨hB.out, fun _ => by rw [hs]⟩
        clear hB hs hr Hrec q1 q2 q3 q4 q5
        go_wp2_with fail
        go_returns
        exact ⟨o, p, rfl, HR, rfl⟩
      · obtain ⟨h', rfl, hm1, hm8, hrn⟩ := hB.out.deeper hlk hs rfl
        have c1 := Hrec.out h' rfl (p + 1) w hr (by omega) hrn
        have HN := Lib.hid (fun (q : Nat) (t : List St) (r : Read ss (p + 1) h' q t) => (show q < ss.length ∧ BlkP ss x (h' + 1) (q + 1) (o ++ rep m.toNat t) ∧ p < q ∧ t.length ≤ 20480 from by
          have hq := r.1.open_ (by omega)
          rcases hs' : ss.getD q s0 with ⟨op', d', a', b', c', m'⟩
          have h13 := r.2 hq
          rw [hs'] at h13
          exact ⟨hq, hB.out.loop hlk hs rfl r.1 hq hs' h13 ⟨hm1, hm8⟩, by have := r.1.lo; omega, r.1.small (by have := Hl.out; omega) (by omega)⟩))
        clear hB hs hr Hrec hrn q1 q2 q3 q4
        rw [Int.natCast_succ] at c1
        go_wp2_with fail
        refine c1.mono ?_
        rintro e w2 ⟨t, q, rfl, hRd, rfl⟩
        obtain ⟨hq, hB2, hpq, ht⟩ := HN.out q t hRd.out
        have HB2 := Lib.hid hB2
        have hqn : q < n := by have := Hl.out; omega
        have Hnew : Hid (((o ++ rep m.toNat t).length : Int) = (o.length : Int) + (t.length : Int) * m) := by
          rw [List.length_append, rep_length]
          push_cast
          rw [Int.toNat_of_nonneg (by omega), Int.mul_comm]
          exact Lib.hid rfl
        have o0 : (0 : Int) ≤ (o.length : Int) := by omega
        have o1 : (o.length : Int) ≤ 20480 := by omega
        generalize (o.length : Int) = O at *
        generalize hT : (t.length : Int) = T at *
        have t0 : 0 ≤ T := by omega
        have t1 : T ≤ 20480 := by omega
        have hy0 : 0 ≤ T * m := Int.mul_nonneg t0 (by omega)
        have hy1 : T * m ≤ 163840 := by
          have : T * m ≤ 20480 * 8 := Int.mul_le_mul t1 hm8 (by omega) (by omega)
          omega
        clear hB2 hRd HN hT c1
        go_wp2_with fail
        go_round
        case rel => exact ⟨q + 1, _, by omega, by go_num, by rw [Hnew.out], HB2⟩
        case measure => simp [intOf]; omega
      · have HB2 := Lib.hid (hB.out.plain hlk hs h12 h13)
        have Hsz : Hid (((o ++ [(⟨op, d, a, b, c, m⟩ : St)]).length : Int) = (o.length : Int) + 1) := by
          rw [List.length_append]
          exact Lib.hid (by simp)
        clear hB hs hr Hrec q1 q2 q3 q4 q5
        go_wp2_with fail
        go_round
        case rel => exact ⟨p + 1, _, by omega, by go_num, by rw [← Hsz.out], HB2⟩
        case measure => simp [intOf]; omega
    · obtain rfl : p = n := by omega
      have HR : Hid (Read ss x h p o) := Lib.hid ⟨hB.out, fun h => by have := Hl.out; omega⟩
      clear hB hr Hrec
      go_wp2_with fail
      go_returns
      exact ⟨o, p, rfl, HR, rfl⟩
theorem l10Size_all (ss : List St) (A : Option Addr) (n cp : Nat) (hl : ss.length = n) (n40 : n ≤ 40) : ∀ (h : Nat), h ≤ 3 → ∀ (x : Nat) (w : World), Ints w A (flat ss) → x ≤ n → runD (ss.drop x) (3 - (h : Int)) = some 0 →
      Calls Tryz.prog 62 #[.slice A n cp, .int .i64 (x : Int)] w fun e w' => ∃ (o : List St) (p : Nat), e = .returned (.tuple #[.int .i64 (o.length : Int), .int .i64 (p : Int)]) ∧ Hid (Read ss x h p o) ∧ w = w' := by
  intro h
  induction h with
  | zero => exact fun hh x w hr hx hrun => l10Size_at ss A n cp hl n40 0 hh (fun h' e => by omega) x w hr hx hrun
  | succ h ih => exact fun hh x w hr hx hrun => l10Size_at ss A n cp hl n40 (h + 1) hh (fun h' e => by
      obtain rfl : h' = h := by omega
      exact ih (by omega)) x w hr hx hrun
/-- The whole program. -/
theorem l10Size_prog (ss : List St) (A : Option Addr) (n cp : Nat) (w : World) (hr : Ints w A (flat ss)) (hl : ss.length = n) (hp : progI ss) :
    Calls Tryz.prog 62 #[.slice A n cp, .int .i64 0] w fun e w' => e = .returned (.tuple #[.int .i64 ((unrollL ss).length : Int), .int .i64 (n : Int)]) ∧ w = w' := by
  refine (l10Size_all ss A n cp hl (by have := hp.1; omega) 3 (by omega) 0 w hr (by omega) (by rw [List.drop_zero]; exact hp.2)).mono ?_
  rintro e w' ⟨o, p, rfl, hR, rfl⟩
  obtain ⟨rfl, rfl⟩ := hR.out.1.all hR.out.2
  exact ⟨by rw [hl], rfl⟩
end Go.Proofs.YtjfmcdfgccdmpaaGreat

namespace Go.Proofs.YtjfmcdfgccdmpaaGreat
open Go Go.RowKit
/-- What the model's block leaves. -/
def BlockP (ss : List St) (x h : Nat) (w : World) (e : Ending) (w' : World) : Prop :=
  ∃ (A : Option Addr) (m c : Nat) (o : List St) (p : Nat), e = .returned (.tuple #[.slice A m c, .int .i64 (p : Int)]) ∧ o.length = m ∧ Hid (Read ss x h p o) ∧ OwnS w.heap.size w' (.slice A m c) m o ∧ Below w.heap.size w w'
set_option maxRecDepth 100000 in
set_option maxHeartbeats 2000000 in
theorem l10Block_at (ss : List St) (A : Option Addr) (n cp : Nat) (hl : ss.length = n) (n40 : n ≤ 40) (h : Nat) (hh : h ≤ 3)
    (hrec : ∀ h', h = h' + 1 → ∀ (x : Nat) (w : World), Ints w A (flat ss) → x ≤ n → runD (ss.drop x) (3 - (h' : Int)) = some 0 →
      Calls Tryz.prog 39 #[.slice A n cp, .int .i64 (x : Int)] w (BlockP ss x h' w))
    (x : Nat) (w : World) (hr : Ints w A (flat ss)) (hx : x ≤ n) (hrun : runD (ss.drop x) (3 - (h : Int)) = some 0) :
    Calls Tryz.prog 39 #[.slice A n cp, .int .i64 (x : Int)] w (BlockP ss x h w) := by
  have Hl := Lib.hid hl
  have HB := Lib.hid (BlkP.start (by omega) hrun)
  have Hrec := Lib.hid hrec
  clear hl hrun hrec
  go_enter Tryz.func39, Tryz.ntmps39
  go_wp2_with fail
  go_loopw [1, 6] (fun av ov wr => ∃ (p : Nat) (o : List St), p ≤ n ∧ av = .int .i64 p ∧ OwnS w.heap.size wr ov o.length o ∧ Hid (BlkP ss x h p o) ∧ Below w.heap.size w wr) (fun av _ _ => n - (intOf av).toNat)
  case atStart => exact ⟨x, [], hx, rfl, World.ownsRow_made (e := 49) (size := 6) (base := w.heap.size) w #[] 0 (Nat.le_refl _) (by unfold maxLen; omega) rfl, HB, below_alloc _ _⟩
  case round =>
    obtain ⟨p, o, hp, rfl, hown, hB, hb⟩ := hrel
    obtain ⟨wo, rfl⟩ : ∃ wo : World, wo = wr := ⟨_, rfl⟩
    clear HB
    have hsm := hB.out.small (by have := Hl.out; omega) hh
    have p0 : (0 : Int) ≤ p := by omega
    have hsz := hb.size
    obtain ⟨Ao, lo, co, rfl, hlo⟩ := ownsRow_slice hown
    subst hlo
    by_cases hlt : p < n
    · rcases hs : ss.getD p s0 with ⟨op, d, a, b, c, m⟩
      have hlk : p < ss.length := by rw [Hl.out]; exact hlt
      have hrb := hr.bound
      obtain ⟨g, oo, rfl, hgl, q0, q1, q2, q3, q4, q5⟩ := cell6 (hrb.below hb) hlk hs
      have p1 : (p : Int) < n := by omega
      have hcase : op = 13 ∨ op = 12 ∨ (op ≠ 12 ∧ op ≠ 13) := by omega
      rcases hcase with rfl | rfl | ⟨h12, h13⟩
      · have HR : Hid (Read ss x h p o) := Lib.hid ⟨hB.out, fun _ => by rw [hs]⟩
        clear hB hs hr hrb Hrec q1 q2 q3 q4 q5
        go_wp2_with fail
        go_returns
        exact ⟨_, _, _, o, p, rfl, rfl, HR, hown, hb⟩
      · obtain ⟨h', rfl, hm1, hm8, hrn⟩ := hB.out.deeper hlk hs rfl
        have c1 := Hrec.out h' rfl (p + 1) wo ((hrb.below hb).ints hsz) (by omega) hrn
        have HN := Lib.hid (fun (q : Nat) (t : List St) (r : Read ss (p + 1) h' q t) => (show q < ss.length ∧ BlkP ss x (h' + 1) (q + 1) (o ++ rep m.toNat t) ∧ p < q ∧ t.length ≤ 20480 from by
          have hq := r.1.open_ (by omega)
          rcases hs' : ss.getD q s0 with ⟨op', d', a', b', c', m'⟩
          have h13 := r.2 hq
          rw [hs'] at h13
          exact ⟨hq, hB.out.loop hlk hs rfl r.1 hq hs' h13 ⟨hm1, hm8⟩, by have := r.1.lo; omega, r.1.small (by have := Hl.out; omega) (by omega)⟩))
        have HC := Lib.hid (fun (w2 : World) (h2 : Below w.heap.size w w2) => cell6 (hrb.below h2) hlk hs)
        clear hB hs hr hrb Hrec hrn q1 q2 q3 q4 q5
        rw [Int.natCast_succ] at c1
        go_wp2_with fail
        refine c1.mono ?_
        rintro e w2 ⟨A6, m6, c6, t, q, rfl, hl6, hRd, hown6, hb6⟩
        obtain ⟨hq, hB2, hpq, ht⟩ := HN.out q t hRd.out
        have HB2 := Lib.hid hB2
        have hqn : q < n := by have := Hl.out; omega
        have hb2 := hb.trans (hb6.mono hb.size)
        have hown2 := own_below hown hb6
        have o6 : OwnSt wo.heap.size w2.heap.size w2 (.slice A6 m6 c6) m6 t := OwnSt.of_own hown6
        have ha : apart (.slice Ao o.length co) (.slice A6 m6 c6) := fun k e e' => by
          have h1 := (World.ownsRow.lt hown k e).2
          have h2 := (World.ownsRow.lt hown6 k e').1
          omega
        have Hfl : Hid ((flat t).length = m6 * 6) := by rw [flat_length, hl6]; exact Lib.hid rfl
        have Hl6 := Lib.hid hl6
        have hm6 : m6 ≤ 20480 := by omega
        have Hown : Hid (OwnS w.heap.size w2 (.slice Ao o.length co) (o ++ rep 0 t).length (o ++ rep 0 t)) := by rw [rep, List.append_nil]; exact Lib.hid hown2
        have mcast : ((m.toNat : Nat) : Int) = m := by omega
        generalize hmm : m.toNat = mm at *
        clear hB2 hRd HN c1 hown hown6 hown2 hb6 hl6 q0
        clear hb hmm
        go_wp2_with fail
        go_loopw [6, 9] (fun ov iv wx => ∃ i : Nat, i ≤ mm ∧ iv = .int .i64 i ∧ Hid (OwnS w.heap.size wx ov (o ++ rep i t).length (o ++ rep i t)) ∧ OwnSt wo.heap.size w2.heap.size wx (.slice A6 m6 c6) m6 t ∧ apart ov (.slice A6 m6 c6) ∧ w2.heap.size ≤ wx.heap.size ∧ Below w.heap.size w wx) (fun _ iv _ => mm - (intOf iv).toNat)
        case atStart => exact ⟨0, Nat.zero_le _, rfl, Hown.out, o6, ha, Nat.le_refl _, hb2⟩
        case round =>
          obtain ⟨i, hi, rfl, hown, o6, ha, hs2, hb⟩ := hrel
          clear Hown
          have hlen : (o ++ rep i t).length ≤ 184320 := by
            rw [List.length_append, rep_length]
            have : i * t.length ≤ 8 * 20480 := Nat.mul_le_mul (by omega) ht
            omega
          obtain ⟨g', o', hA, -, -, -, -, -, -, r5⟩ := HC.out wr hb
          injection hA with hA
          injection hA with hA1 hA2
          subst hA1 hA2
          have i0 : (0 : Int) ≤ i := by omega
          have hown := hown.out
          obtain ⟨Ax, lx, cx, rfl, hlx⟩ := ownsRow_slice hown
          generalize hll : (o ++ rep i t).length = sl at *
          subst hlx
          have HLx := Lib.hid hll
          clear hll
          by_cases hil : i < mm
          · have i1 : (i : Int) < m := by omega
            have hsx := hb.size
            clear HC
            go_wp2_with (at_builtin; go_loud (refine app_cells elemStmt rfl _ _ rfl w.heap.size _ sl _ rfl hown A6 m6 c6 (flat t) rfl o6.ints Hfl.out (by unfold maxLen; omega) (by omega) hsx ?_))
            intro v7 w7 hown7 hgrow hat
            have hb7 := below_own hb hown hgrow (Nat.le_refl _) hsx
            have hsz7 : w2.heap.size ≤ w7.heap.size := Nat.le_trans hs2 hgrow.size
            have ha7 := apart_app' ha (fun k e => Nat.lt_of_lt_of_le (o6.top k e) hs2) hat
            have o67 : OwnSt wo.heap.size w2.heap.size w7 (.slice A6 m6 c6) m6 t := ⟨World.ownsRow.kept o6.own hgrow (by
              rcases hv : (Value.slice A6 m6 c6).ownBlock with _ | k
              · exact .inl rfl
              · exact .inr (fun e => ha k e.symm hv)), o6.top⟩
            have Hown7 : Hid (OwnS w.heap.size w7 v7 (o ++ rep (i + 1) t).length (o ++ rep (i + 1) t)) := by
              have h1 := OwnS.app hown7
              have e1 : o ++ rep (i + 1) t = (o ++ rep i t) ++ t := by rw [rep, List.append_assoc]
              have e2 : ((o ++ rep i t) ++ t).length = sl + m6 := by rw [List.length_append, HLx.out, Hl6.out]
              rw [e1, e2]
              exact Lib.hid h1
            clear hown7 hgrow hat ha o6 hown hb
            go_wp2_with fail
            go_roundw
            case rel => exact ⟨i + 1, by omega, by go_num, Hown7, o67, ha7, hsz7, hb7⟩
            case measure => simp [intOf]; omega
          · obtain rfl : i = mm := by omega
            have Hown9 : Hid (OwnS w.heap.size wr (.slice Ax sl cx) (o ++ rep i t).length (o ++ rep i t)) := by rw [HLx.out]; exact Lib.hid hown
            have i1 : (i : Int) = m := mcast
            have i2 : ¬ (i : Int) < m := by omega
            clear HC o6 ha hown
            go_wp2_with fail
            go_roundw
            case rel => exact ⟨q + 1, _, by omega, by go_num, Hown9.out, HB2, hb⟩
            case measure => simp [intOf]; omega
      · have HB2 := Lib.hid (hB.out.plain hlk hs h12 h13)
        generalize hll : o.length = sl at *
        have Hll := Lib.hid hll
        clear hB hs hr hrb Hrec hll
        go_wp2_with (first | (at_builtin; go_loud (refine app_list (e' := 49) elemStmt rfl _ _ rfl w.heap.size _ sl (intVals (flat o)) rfl (own_below hown (below_alloc _ _)) wo.heap.size 1 1 _ (0, 0) rfl (heap_alloc_new wo _) rfl (oneCell_i64 [_, _, _, _, _, _]) (by omega) (by unfold maxLen; omega) (by omega) (by simp; omega) (wo.heap.size + 1) (by simp) ?_)))
        intro g2 cap w10 hownq hgrow hat hgl2
        have hb3 := below_own (low_alloc hb _) (own_below hown (below_alloc _ _)) hgrow (Nat.le_refl _) (low_alloc hb _).size
        have Hown3 : Hid (OwnS w.heap.size w10 (.slice (some ⟨g2, 0, none⟩) (sl + 1) cap) (o ++ [(⟨op, d, a, b, c, m⟩ : St)]).length (o ++ [(⟨op, d, a, b, c, m⟩ : St)])) := by
          rw [List.length_append, Hll.out]
          exact Lib.hid (OwnS.one hownq)
        clear hownq hown hgrow hat hgl2
        go_wp2_with fail
        go_roundw
        case rel => exact ⟨p + 1, _, by omega, by go_num, Hown3.out, HB2, hb3⟩
        case measure => simp [intOf]; omega
    · obtain rfl : p = n := by omega
      have HR : Hid (Read ss x h p o) := Lib.hid ⟨hB.out, fun h => by have := Hl.out; omega⟩
      clear hB hr Hrec
      go_wp2_with fail
      go_returns
      exact ⟨_, _, _, o, p, rfl, rfl, HR, hown, hb⟩
theorem l10Block_all (ss : List St) (A : Option Addr) (n cp : Nat) (hl : ss.length = n) (n40 : n ≤ 40) : ∀ (h : Nat), h ≤ 3 → ∀ (x : Nat) (w : World), Ints w A (flat ss) → x ≤ n → runD (ss.drop x) (3 - (h : Int)) = some 0 →
      Calls Tryz.prog 39 #[.slice A n cp, .int .i64 (x : Int)] w (BlockP ss x h w) := by
  intro h
  induction h with
  | zero => exact fun hh x w hr hx hrun => l10Block_at ss A n cp hl n40 0 hh (fun h' e => by omega) x w hr hx hrun
  | succ h ih => exact fun hh x w hr hx hrun => l10Block_at ss A n cp hl n40 (h + 1) hh (fun h' e => by
      obtain rfl : h' = h := by omega
      exact ih (by omega)) x w hr hx hrun
/-- The whole program. -/
theorem l10Block_prog (ss : List St) (A : Option Addr) (n cp : Nat) (w : World) (hr : Ints w A (flat ss)) (hl : ss.length = n) (hp : progI ss) :
    Calls Tryz.prog 39 #[.slice A n cp, .int .i64 0] w fun e w' => ∃ (B : Option Addr) (m c : Nat), e = .returned (.tuple #[.slice B m c, .int .i64 (n : Int)]) ∧ Hid ((unrollL ss).length = m) ∧ OwnS w.heap.size w' (.slice B m c) m (unrollL ss) ∧ Below w.heap.size w w' := by
  refine (l10Block_all ss A n cp hl (by have := hp.1; omega) 3 (by omega) 0 w hr (by omega) (by rw [List.drop_zero]; exact hp.2)).mono ?_
  rintro e w' ⟨B, m, c, o, p, rfl, hl2, hR, hown, hb⟩
  obtain ⟨rfl, rfl⟩ := hR.out.1.all hR.out.2
  exact ⟨B, m, c, by rw [hl], Lib.hid hl2, hown, hb⟩
end Go.Proofs.YtjfmcdfgccdmpaaGreat

namespace Go.Proofs.YtjfmcdfgccdmpaaGreat
open Go Go.RowKit
/-- A list of statements of the call's own, and a bool. -/
def Post_S_bool (ss : List St) (r : Bool) (w : World) (e : Ending) (w' : World) : Prop :=
  ∃ (A : Option Addr) (m c : Nat), e = .returned (.tuple #[.slice A m c, .bool r]) ∧ ss.length = m ∧ OwnSt w.heap.size w'.heap.size w' (.slice A m c) m ss ∧ Below w.heap.size w w'
set_option maxRecDepth 100000 in
set_option maxHeartbeats 1000000 in
theorem spec_UnrolledSize (A : Option Addr) (n cp : Nat) (ss : List St) (w : World) (hr : Ints w A (flat ss)) (hl : ss.length = n) (hn : n ≤ 2000000) :
    Calls Tryz.prog 38 #[.slice A n cp] w fun e w' => e = .returned (.int .i64 (sizeI ss)) ∧ Below w.heap.size w w' := by
  have c1 := spec_ProgramOk A n cp ss w hr hl hn
  unfold sizeI
  by_cases hp : progI ss
  case neg =>
    rw [decide_eq_false hp] at c1
    rw [if_neg hp]
    clear hp hr
    go_enter Tryz.func38, Tryz.ntmps38
    go_wp2_with fail
    refine c1.mono ?_
    rintro e w1 ⟨rfl, hb⟩
    go_wp2_with fail
    go_ret
    exact ⟨rfl, hb⟩
  rw [decide_eq_true hp] at c1
  rw [if_pos hp]
  have c2 := fun w' h => l10Size_prog ss A n cp w' h hl hp
  clear hp
  go_enter Tryz.func38, Tryz.ntmps38
  go_wp2_with fail
  refine c1.mono ?_
  rintro e w1 ⟨rfl, hb1⟩
  have hr1 := (hr.bound.below hb1).ints hb1.size
  clear c1
  go_wp2_with fail
  refine (c2 _ hr1).mono ?_
  rintro e w2 ⟨rfl, rfl⟩
  go_wp2_with fail
  go_ret
  exact ⟨rfl, hb1⟩
set_option maxRecDepth 100000 in
set_option maxHeartbeats 1000000 in
theorem spec_Unroll (A : Option Addr) (n cp : Nat) (ss : List St) (w : World) (hr : Ints w A (flat ss)) (hl : ss.length = n) (hn : n ≤ 2000000) :
    Calls Tryz.prog 20 #[.slice A n cp] w (Post_S_bool (unrV ss) (decide (unrI ss)) w) := by
  have c1 := spec_UnrolledSize A n cp ss w hr hl hn
  have hempty : ∀ w1 : World, Below w.heap.size w w1 → OwnSt w.heap.size (w1.alloc (.cells #[] 49)).heap.size (w1.alloc (.cells #[] 49)) (.slice (some ⟨w1.heap.size, 0, none⟩) 0 0) 0 [] := fun w1 h1 =>
    OwnSt.of_own (World.ownsRow_made (e := 49) (size := 6) (base := w.heap.size) w1 #[] 0 h1.size (by unfold maxLen; omega) rfl)
  unfold sizeI at c1
  unfold unrV
  by_cases hp : progI ss
  case neg =>
    rw [if_neg hp] at c1
    have hu : ¬ unrI ss := fun h => hp h.1
    rw [if_neg hu, decide_eq_false hu]
    clear hp hr hu
    go_enter Tryz.func20, Tryz.ntmps20
    go_wp2_with fail
    refine c1.mono ?_
    rintro e w1 ⟨rfl, hb⟩
    go_wp2_with fail
    go_returns
    exact ⟨_, _, _, rfl, rfl, hempty _ hb, low_alloc hb _⟩
  rw [if_pos hp] at c1
  by_cases h120 : (unrollL ss).length ≤ 120
  case neg =>
    have hu : ¬ unrI ss := fun h => h120 h.2
    rw [if_neg hu, decide_eq_false hu]
    generalize (unrollL ss).length = z at *
    have z0 : (120 : Int) < z := by omega
    have z1 : ¬ (z : Int) < 0 := by omega
    clear hp hr hu
    go_enter Tryz.func20, Tryz.ntmps20
    go_wp2_with fail
    refine c1.mono ?_
    rintro e w1 ⟨rfl, hb⟩
    go_wp2_with fail
    go_returns
    exact ⟨_, _, _, rfl, rfl, hempty _ hb, low_alloc hb _⟩
  have hu : unrI ss := ⟨hp, h120⟩
  rw [if_pos hu, decide_eq_true hu]
  have c2 := fun w' h => l10Block_prog ss A n cp w' h hl hp
  generalize hz : unrollL ss = zs at *
  have z0 : ¬ (120 : Int) < zs.length := by omega
  have z1 : ¬ (zs.length : Int) < 0 := by omega
  clear hp hu hz hempty
  go_enter Tryz.func20, Tryz.ntmps20
  go_wp2_with fail
  refine c1.mono ?_
  rintro e w1 ⟨rfl, hb1⟩
  have hr1 := (hr.bound.below hb1).ints hb1.size
  clear c1
  go_wp2_with fail
  refine (c2 _ hr1).mono ?_
  rintro e w2 ⟨B, m, c, rfl, hm, hown, hb2⟩
  go_wp2_with fail
  go_returns
  exact ⟨_, _, _, rfl, hm.out, OwnSt.of_own (own_mono hown hb1.size), hb1.trans (hb2.mono hb1.size)⟩
end Go.Proofs.YtjfmcdfgccdmpaaGreat
