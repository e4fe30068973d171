/- Pruning: which gates are needed, the model's. No condition. -/
import Derived.Test.YtegdlegndgdgiaaProg
import Derived.Test.YtegdlegndgdgiaaS1
import Derived.Test.YtegdlegndgdgiaaSmV
namespace Go.Proofs.Ytegdlegndgdgiaa
open Go Go.RowKit
/-- Flags as values. -/
def boolVs (L : List Bool) : List Value := L.map .bool
theorem boolVs_set (L : List Bool) (i : Nat) (b : Bool) : boolVs (L.set i b) = (boolVs L).set i (.bool b) := by simp [boolVs, List.map_set]
theorem ext_fl {a b : List Bool} (h : a.length = b.length) (he : ∀ i, i < a.length → (fl a i = true ↔ fl b i = true)) : a = b := by
  apply List.ext_getElem?
  intro i
  by_cases hi : i < a.length
  · have e := he i hi
    unfold fl at e
    rw [List.getD_eq_getElem?_getD, List.getD_eq_getElem?_getD, List.getElem?_eq_getElem hi, List.getElem?_eq_getElem (by omega)] at e
    rw [List.getElem?_eq_getElem hi, List.getElem?_eq_getElem (by omega)]
    simp only [Option.getD_some] at e
    rw [Bool.eq_iff_iff.2 e]
  · rw [List.getElem?_eq_none (by omega), List.getElem?_eq_none (by omega)]
theorem lvO_snoc (xs : List Int) {n : Nat} {o : Int} (h : 0 ≤ o ∧ o < (n : Int)) : (lvO xs n).set o.toNat true = lvO (xs ++ [o]) n := by
  refine ext_fl (by rw [List.length_set, lvO_length, lvO_length]) (fun i hi => ?_)
  rw [List.length_set, lvO_length] at hi
  rw [fl_set _ (by rw [lvO_length]; omega), lvO_at xs hi, lvO_at (xs ++ [o]) hi, List.mem_append, List.mem_singleton]
  constructor
  · rintro (e | e)
    · exact .inr (by omega)
    · exact .inl e
  · rintro (e | e)
    · exact .inr e
    · exact .inl (by omega)
theorem lvO_nil (n : Nat) : lvO [] n = List.replicate n false := by
  refine ext_fl (by rw [lvO_length, List.length_replicate]) (fun i hi => ?_)
  rw [lvO_length] at hi
  rw [lvO_at [] hi]
  unfold fl
  rw [List.getD_eq_getElem?_getD, List.getElem?_replicate, if_pos hi]
  simp
/-- A row of flags of the call's own. -/
def Flags (B : Nat) (w : World) (q n : Nat) (L : List Bool) : Prop := w.ownsRow B 4 1 (.slice (some ⟨q, 0, none⟩) n n) n (boolVs L)
section
variable {B q n : Nat} {w w1 : World} {L : List Bool}
theorem Flags.len (h : Flags B w q n L) : L.length = n := by have := h.1; simp [boolVs] at this; omega
theorem Flags.at_ (h : Flags B w q n L) {i : Nat} (hi : i < n) : w.cell? ⟨q, i, none⟩ = some (.bool (fl L i)) ∧ w.frozen? ⟨q, i, none⟩ = false := by
  have hl := h.len
  refine ⟨?_, h.frozenAt i⟩
  rw [h.cellAt i (by omega)]
  simp [boolVs, fl, List.getElem?_map, List.getD_eq_getElem?_getD, List.getElem?_eq_getElem (show i < L.length by omega)]
theorem Flags.set (h : Flags B w q n L) (i : Nat) (b : Bool) : Flags B (w.setCell ⟨q, i, none⟩ (.bool b)) q n (L.set i b) := by
  unfold Flags
  rw [boolVs_set]
  exact (h.stored i (.bool b)).1
theorem Flags.low (h : Flags B w q n L) {B' : Nat} (hb : B' ≤ B) : Flags B' w q n L := ⟨h.1, h.2.elim Or.inl (fun ⟨g, cap, cur, hv, hg, r⟩ => Or.inr ⟨g, cap, cur, hv, Nat.le_trans hb hg, r⟩)⟩
theorem Flags.below (h : Flags B w q n L) (hb : Below w.heap.size w w1) : Flags B w1 q n L := own_below h hb
end
theorem spec_l16Two (k : Int) (r : Bool) (hr : decide (two k) = r) (w : World) : Calls Try.prog 120 #[.int .i64 k] w fun e w' => e = .returned (.bool r) ∧ w = w' := by
  have Hr := Lib.hid hr
  clear hr
  by_cases h3 : k = 3
  · have hb : (k == 3) = true := by simp [h3]
    go_enter Try.func120, Try.ntmps120
    go_wp2_with fail
    go_ret
    exact ⟨ret_bool (by rw [← Hr.out, decide_eq_true (show two k from .inl h3)]), rfl⟩
  · have hb : (k == 3) = false := by simp [h3]
    by_cases h4 : k = 4
    · have hc : (k == 4) = true := by simp [h4]
      go_enter Try.func120, Try.ntmps120
      go_wp2_with fail
      go_ret
      exact ⟨ret_bool (by rw [← Hr.out, decide_eq_true (show two k from .inr h4)]), rfl⟩
    · have hc : (k == 4) = false := by simp [h4]
      go_enter Try.func120, Try.ntmps120
      go_wp2_with fail
      go_ret
      exact ⟨ret_bool (by rw [← Hr.out, decide_eq_false (show ¬ two k from fun e => e.elim h3 h4)]), rfl⟩
theorem infoBool : ∃ i, Try.prog.info? 4 = some i ∧ i.zero = some (.bool false) ∧ i.size = 1 ∧ i.bytes = 1 := by
  obtain ⟨i, hi, hz, h1, h2⟩ := info_parts (show (Try.prog.info? 4).map (fun i => (i.zero, i.size, i.bytes)) = some (some (.bool false), 1, 1) by kernel_rfl)
  exact ⟨i, hi, hz, h1, h2⟩
set_option maxRecDepth 100000 in
set_option maxHeartbeats 2000000 in
theorem spec_l16Live (A0 : Option Addr) (n0 c0 : Nat) (z0 : List Int) (A1 : Option Addr) (n1 c1 : Nat) (z1 : List Int) (hc : cirOk z0 n0 z1) (w : World) (h0 : Ints w A0 z0) (l0 : z0.length = n0 * 3) (h1 : Ints w A1 z1) (l1 : z1.length = n1) (m1 : n1 ≤ 2000000) :
    Calls Try.prog 119 #[.agg #[.slice A0 n0 c0, .slice A1 n1 c1]] w fun e w' => ∃ q, e = .returned (.slice (some ⟨q, 0, none⟩) n0 n0) ∧ Flags w.heap.size w' q n0 (lv z0 n0 z1) ∧ Below w.heap.size w w' := by
  have al := below_alloc w (.cells #[.slice A0 n0 c0, .slice A1 n1 c1] 31)
  have b0 := heap_alloc_new w (.cells #[.slice A0 n0 c0, .slice A1 n1 c1] 31)
  have sz0 : w.heap.size < (w.alloc (.cells #[.slice A0 n0 c0, .slice A1 n1 c1] 31)).heap.size := by simp
  have i0 := h0.bound.below al
  have i1 := h1.bound.below al
  have L0 := Lib.hid l0
  have L1 := Lib.hid l1
  have HG := Lib.hid hc
  have n6 : n0 ≤ 6000 := hc.1
  clear h0 h1 l0 l1 hc
  go_enter Try.func119, Try.ntmps119
  go_wp2_with (first | (refine make_fullI Try.underlying63 infoBool rfl rfl _ _ rfl (w.alloc (.cells #[.slice A0 n0 c0, .slice A1 n1 c1] 31)).heap.size _ _ _ _ n0 rfl rfl rfl rfl (by omega) (by unfold maxLen; omega) (Nat.le_refl _) ?_))
  have sw : (w.alloc (.cells #[.slice A0 n0 c0, .slice A1 n1 c1] 31)).heap.size = w.heap.size + 1 := by simp
  generalize w.alloc (.cells #[.slice A0 n0 c0, .slice A1 n1 c1] 31) = w0 at *
  have x0 := (blk (u := .slice A0 n0 c0) (i := 0) b0 rfl).1
  have x1 := (blk (u := .slice A1 n1 c1) (i := 1) b0 rfl).1
  intro w1 hown1 hg1
  rw [← sw] at hown1 ⊢
  clear sw
  have hb1 : Below w0.heap.size w0 w1 := (Below.refl _ _).grown hg1 (Nat.le_refl _) (fun k h => by cases h)
  have hq : w0.heap.size < w1.heap.size := (hown1.lt w0.heap.size rfl).2
  have S0 := Lib.hid (And.intro (show Flags w0.heap.size w1 w0.heap.size n0 (lvO (z1.take 0) n0) by
    unfold Flags
    rw [List.take_zero, lvO_nil, show boolVs (List.replicate n0 false) = List.replicate n0 (.bool false) by simp [boolVs]]
    exact hown1) hb1)
  have HZ := Lib.hid (show ∀ t, t < n1 → (0 ≤ z1.getD t 0 ∧ z1.getD t 0 < (n0 : Int)) ∧ z1.take (t + 1) = z1.take t ++ [z1.getD t 0] from fun t ht => ⟨HG.out.2.2 _ (gD_mem (by rw [L1.out]; exact ht)), take_snoc (by rw [L1.out]; exact ht)⟩)
  clear hown1 hg1
  go_wp2_with fail
  go_loopw [4] (fun i wr => ∃ t : Nat, t ≤ n1 ∧ i = .int .i64 t ∧ Flags w0.heap.size wr w0.heap.size n0 (lvO (z1.take t) n0) ∧ Below w0.heap.size w0 wr) (fun i _ => n1 - (intOf i).toNat)
  case atStart => exact ⟨0, Nat.zero_le _, rfl, S0.out.1, S0.out.2⟩
  case round =>
    obtain ⟨t, ht, rfl, fl1, hb⟩ := hrel
    clear S0
    have a1 := cell_on x1 hb
    by_cases hlt : t < n1
    · have t0 : (0 : Int) ≤ t := by omega
      have t1 : (t : Int) < n1 := by omega
      obtain ⟨q1, o1, rfl, hq1, ce⟩ := (i1.below (hb.mono al.size)).at_ (j := t) (by rw [L1.out]; exact hlt)
      obtain ⟨⟨v0, v1⟩, et⟩ := HZ.out t hlt
      generalize z1.getD t 0 = y at *
      obtain ⟨f0, f1⟩ := fl1.at_ (i := y.toNat) (by omega)
      have H := Lib.hid (show Flags w0.heap.size (wr.setCell ⟨w0.heap.size, y.toNat, none⟩ (.bool true)) w0.heap.size n0 (lvO (z1.take (t + 1)) n0) by
        have := fl1.set y.toNat true
        rw [lvO_snoc _ ⟨v0, v1⟩, ← et] at this
        exact this)
      have HB := Lib.hid (hb.setCell (p := ⟨w0.heap.size, y.toNat, none⟩) (Nat.le_refl _) (.bool true))
      clear fl1 hb et
      go_wp2_with fail
      go_roundw
      case rel => exact ⟨t + 1, by omega, by go_num, H.out, HB.out⟩
      case measure => simp [intOf]; omega
    · obtain rfl : t = n1 := by omega
      rw [List.take_of_length_le (by rw [L1.out]; exact Nat.le_refl _)] at fl1
      have a0 := cell_on x0 hb
      have S1 := Lib.hid (And.intro fl1 hb)
      have hw0 : IntKind.i64.wrap ((n0 : Int) - 1) = (n0 : Int) - 1 := by rw [IntKind.wrap_i64]; omega
      clear fl1 hb
      go_wp2_with fail
      go_loopw [5] (fun i wr => ∃ j : Nat, j ≤ n0 ∧ i = .int .i64 ((n0 : Int) - 1 - (j : Int)) ∧ Flags w0.heap.size wr w0.heap.size n0 (lvN z0 n0 z1 j) ∧ Below w0.heap.size w0 wr) (fun i _ => ((intOf i) + 1).toNat)
      case atStart => exact ⟨0, Nat.zero_le _, by simp, S1.out.1, S1.out.2⟩
      case round =>
        obtain ⟨j, hj, hi, fl1, hb⟩ := hrel
        clear S1
        have a0 := cell_on x0 hb
        by_cases hlt : j < n0
        · obtain ⟨t, ht⟩ : ∃ t, n0 - 1 - j = t := ⟨_, rfl⟩
          have htn : t < n0 := by omega
          rw [show (n0 : Int) - 1 - (j : Int) = (t : Int) by omega] at hi
          subst hi
          have t0 : (0 : Int) ≤ t := by omega
          have t1 : (t : Int) < n0 := by omega
          obtain ⟨q, o, rfl, hq0, e0, e1, e2⟩ := gate_cells (i0.below (hb.mono al.size)) L0.out htn
          obtain ⟨r1, r2⟩ := arg_lt HG.out.2.1 htn
          have ok := HG.out.2.1 t htn
          have HS := Lib.hid (show lvN z0 n0 z1 (j + 1) = lvS z0 (lvN z0 n0 z1 j) t by rw [lvN, ht])
          have HU := Lib.hid (show lvS z0 (lvN z0 n0 z1 j) t = if fl (lvA z0 (lvN z0 n0 z1 j) t) t = true ∧ two (gk z0 t) then (lvA z0 (lvN z0 n0 z1 j) t).set (gb z0 t).toNat true else lvA z0 (lvN z0 n0 z1 j) t from rfl)
          have HV := Lib.hid (show lvA z0 (lvN z0 n0 z1 j) t = if fl (lvN z0 n0 z1 j) t = true ∧ one1 (gk z0 t) then (lvN z0 n0 z1 j).set (ga z0 t).toNat true else lvN z0 n0 z1 j from rfl)
          have hD : (lvN z0 n0 z1 j).length = n0 := lvN_length z0 n0 z1 j
          generalize lvA z0 (lvN z0 n0 z1 j) t = D1 at *
          generalize lvS z0 (lvN z0 n0 z1 j) t = D2 at *
          generalize lvN z0 n0 z1 j = D at *
          generalize gk z0 t = k at *
          generalize ga z0 t = a at *
          generalize gb z0 t = b at *
          have af := below_alloc wr (.cells #[.int .i64 k, .int .i64 a, .int .i64 b] 45)
          have bb := heap_alloc_new wr (.cells #[.int .i64 k, .int .i64 a, .int .i64 b] 45)
          have fl2 := fl1.below af
          have hb2 := hb.trans (af.mono hb.size)
          have hd : IntKind.i64.wrap ((t : Int) - 1) = (t : Int) - 1 := by rw [IntKind.wrap_i64]; omega
          have nq := (World.ownsRow.lt fl1 w0.heap.size rfl).2
          clear fl1 hb
          go_upto_region 10 with (fail)
          generalize wr.alloc (.cells #[.int .i64 k, .int .i64 a, .int .i64 b] 45) = wa at *
          have c0 := (blk (i := 0) (u := .int .i64 k) bb rfl).1
          have c1 := (blk (i := 1) (u := .int .i64 a) bb rfl).1
          have c2 := (blk (i := 2) (u := .int .i64 b) bb rfl).1
          have f0 := (fl2.at_ (i := t) htn).1
          cases hf : fl D t with
          | false =>
            rw [hf] at f0
            have e1' : D1 = D := by rw [HV.out, if_neg (by rw [hf]; simp)]
            have e2' : D2 = D := by rw [HU.out, e1', if_neg (by rw [hf]; simp)]
            have H := Lib.hid (show Flags w0.heap.size wa w0.heap.size n0 (lvN z0 n0 z1 (j + 1)) by rw [HS.out, e2']; exact fl2)
            have HB := Lib.hid hb2
            clear fl2 hb2 e1' e2' HS HU HV
            go_wp2_with fail
            go_roundw
            case rel => exact ⟨j + 1, by omega, by go_num, H.out, HB.out⟩
            case measure => simp [intOf]
          | true =>
            rw [hf] at f0
            by_cases h2 : two k
            · have cT := spec_l16Two k true (decide_eq_true h2)
              have h1 : one1 k := by unfold one1; unfold two at h2; omega
              obtain ⟨p0, p1⟩ := r1 h1
              obtain ⟨p2, p3⟩ := r2 h2
              have u1 : a < (n0 : Int) := by omega
              have u2 : b < (n0 : Int) := by omega
              have e1' : D1 = D.set a.toNat true := by rw [HV.out, if_pos ⟨hf, h1⟩]
              have fe : fl D1 t = true := by rw [e1']; exact (fl_set D (by omega)).2 (.inr hf)
              have e2' : D2 = D1.set b.toNat true := by rw [HU.out, if_pos ⟨fe, h2⟩]
              have fl3 := fl2.set a.toNat true
              rw [← e1'] at fl3
              have hb3 := hb2.setCell (p := ⟨w0.heap.size, a.toNat, none⟩) (Nat.le_refl _) (.bool true)
              obtain ⟨fa0, fa⟩ := fl2.at_ (i := a.toNat) (by omega)
              go_upto_region 12 with (first | (go_at_call 120; (with_reducible refine (cT _).mono ?_); rintro e9 w9 ⟨rfl, rfl⟩))
              have d0 := heap_far bb (p := ⟨w0.heap.size, a.toNat, none⟩) (show wr.heap.size ≠ w0.heap.size by omega) (.bool true)
              generalize wa.setCell ⟨w0.heap.size, a.toNat, none⟩ (.bool true) = wb at *
              have k0 := (blk (i := 0) (u := .int .i64 k) d0 rfl).1
              have k2 := (blk (i := 2) (u := .int .i64 b) d0 rfl).1
              have g0 := (fl3.at_ (i := t) htn).1
              rw [fe] at g0
              obtain ⟨ga0, ga1⟩ := fl3.at_ (i := b.toNat) (by omega)
              have H := Lib.hid (show Flags w0.heap.size (wb.setCell ⟨w0.heap.size, b.toNat, none⟩ (.bool true)) w0.heap.size n0 (lvN z0 n0 z1 (j + 1)) by rw [HS.out, e2']; exact fl3.set b.toNat true)
              have HB := Lib.hid (hb3.setCell (p := ⟨w0.heap.size, b.toNat, none⟩) (Nat.le_refl _) (.bool true))
              clear fl2 fl3 hb2 hb3 e1' e2' HS HU HV fe c0 c1 c2 f0 fa0 fa bb d0
              go_wp2_with (first | (go_at_call 120; (with_reducible refine (cT _).mono ?_); rintro e9 w9 ⟨rfl, rfl⟩))
              go_roundw
              case rel => exact ⟨j + 1, by omega, by go_num, H.out, HB.out⟩
              case measure => simp [intOf]
            · have cT := spec_l16Two k false (decide_eq_false h2)
              have e2' : D2 = D1 := by rw [HU.out, if_neg (fun e => h2 e.2)]
              by_cases h5 : k = 5
              · have hb5 : (k == 5) = true := by simp [h5]
                have h1 : one1 k := by unfold one1; omega
                obtain ⟨p0, p1⟩ := r1 h1
                have u1 : a < (n0 : Int) := by omega
                have e1' : D1 = D.set a.toNat true := by rw [HV.out, if_pos ⟨hf, h1⟩]
                have fe : fl D1 t = true := by rw [e1']; exact (fl_set D (by omega)).2 (.inr hf)
                have fl3 := fl2.set a.toNat true
                rw [← e1'] at fl3
                have hb3 := hb2.setCell (p := ⟨w0.heap.size, a.toNat, none⟩) (Nat.le_refl _) (.bool true)
                obtain ⟨fa0, fa⟩ := fl2.at_ (i := a.toNat) (by omega)
                clear h5
                go_upto_region 12 with (first | (go_at_call 120; (with_reducible refine (cT _).mono ?_); rintro e9 w9 ⟨rfl, rfl⟩))
                have d0 := heap_far bb (p := ⟨w0.heap.size, a.toNat, none⟩) (show wr.heap.size ≠ w0.heap.size by omega) (.bool true)
                generalize wa.setCell ⟨w0.heap.size, a.toNat, none⟩ (.bool true) = wb at *
                have k0 := (blk (i := 0) (u := .int .i64 k) d0 rfl).1
                have g0 := (fl3.at_ (i := t) htn).1
                rw [fe] at g0
                have H := Lib.hid (show Flags w0.heap.size wb w0.heap.size n0 (lvN z0 n0 z1 (j + 1)) by rw [HS.out, e2']; exact fl3)
                have HB := Lib.hid hb3
                clear fl2 fl3 hb2 hb3 e1' e2' HS HU HV fe c0 c1 c2 f0 fa0 fa bb d0
                go_wp2_with (first | (go_at_call 120; (with_reducible refine (cT _).mono ?_); rintro e9 w9 ⟨rfl, rfl⟩))
                go_roundw
                case rel => exact ⟨j + 1, by omega, by go_num, H.out, HB.out⟩
                case measure => simp [intOf]
              · have hb5 : (k == 5) = false := by simp [h5]
                have e1' : D1 = D := by rw [HV.out, if_neg (fun e => by have := e.2; unfold one1 at this; unfold two at h2; omega)]
                have H := Lib.hid (show Flags w0.heap.size wa w0.heap.size n0 (lvN z0 n0 z1 (j + 1)) by rw [HS.out, e2', e1']; exact fl2)
                have HB := Lib.hid hb2
                clear fl2 hb2 e1' e2' HS HU HV bb
                go_wp2_with (first | (go_at_call 120; (with_reducible refine (cT _).mono ?_); rintro e9 w9 ⟨rfl, rfl⟩))
                go_roundw
                case rel => exact ⟨j + 1, by omega, by go_num, H.out, HB.out⟩
                case measure => simp [intOf]
        · obtain rfl : j = n0 := by omega
          have hL := Lib.hid (And.intro fl1 (hb.mono al.size))
          have hz : (j : Int) - 1 - (j : Int) = -1 := by omega
          rw [hz] at hi
          subst hi
          clear fl1 hb hz
          go_wp2_with fail
          go_ret
          exact ⟨w0.heap.size, rfl, hL.out.1.low al.size, al.trans hL.out.2⟩
end Go.Proofs.Ytegdlegndgdgiaa
