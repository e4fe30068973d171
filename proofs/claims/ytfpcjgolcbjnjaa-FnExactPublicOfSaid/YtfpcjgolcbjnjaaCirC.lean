/- Boolean circuits: the program's values of wires. No condition. -/
import Derived.Test.YtfpcjgolcbjnjaaProg
import Derived.Test.YtfpcjgolcbjnjaaCirB
import Derived.Test.YtfpcjgolcbjnjaaB1
import Derived.Laws.CopyOwn
namespace Go.Proofs.Ytfpcjgolcbjnjaa
open Go Go.RowKit
theorem full_heap {w : World} {base g n : Nat} {e : TypeId} {xs : List Value} (h : w.ownsRow base e 1 (.slice (some ⟨g, 0, none⟩) n n) n xs) : w.heap[g]? = some (.cells xs.toArray e (0, 0)) ∧ base ≤ g := by
  obtain ⟨hl, h | ⟨g', cap, cur, he, hb, hh, h1, h2, h3, h4⟩⟩ := h
  · cases h.1
  · injection he with e1 e2 e3
    injection e1 with e1
    injection e1 with e1
    subst e1 e3
    have : cur.toList = xs := by rw [← h4, List.take_of_length_le (by simp; omega)]
    subst this
    exact ⟨by simpa using hh, hb⟩
theorem full_own {w : World} {base g n : Nat} {e : TypeId} {xs : List Value} (hh : w.heap[g]? = some (.cells xs.toArray e (0, 0))) (hb : base ≤ g) (hl : xs.length = n) (hm : n ≤ maxLen) : w.ownsRow base e 1 (.slice (some ⟨g, 0, none⟩) n n) n xs :=
  ⟨by omega, .inr ⟨g, n, xs.toArray, rfl, hb, hh, Nat.le_refl _, hm, by simp; omega, by rw [List.take_of_length_le (by simp; omega)]⟩⟩
/-- Output wires, the first k replaced by their values. -/
def mixL (v os : List Int) (k : Nat) : List Int := outV v (os.take k) ++ os.drop k
theorem mix_length (v os : List Int) (k : Nat) : (mixL v os k).length = os.length := by
  unfold mixL
  rw [List.length_append, outV_length, List.length_take, List.length_drop]
  omega
theorem mix_at (v os : List Int) {k : Nat} (h : k < os.length) : (mixL v os k).getD k 0 = os.getD k 0 := by
  have hl : (outV v (os.take k)).length = k := by rw [outV_length, List.length_take]; omega
  unfold mixL
  rw [gD_right (by omega), hl, Nat.sub_self]
  simp [List.getD_eq_getElem?_getD, List.getElem?_drop]
theorem mix_set (v os : List Int) {k : Nat} (h : k < os.length) : (mixL v os k).set k (v.getD (os.getD k 0).toNat 0) = mixL v os (k + 1) := by
  have hl : (outV v (os.take k)).length = k := by rw [outV_length, List.length_take]; omega
  unfold mixL
  rw [List.set_append_right _ _ (by omega), hl, Nat.sub_self, outV_take v os h, List.append_assoc]
  congr 1
  rw [List.drop_eq_getElem_cons h, List.set_cons_zero]
  rfl
theorem mix_all (v os : List Int) : mixL v os os.length = outV v os := by simp [mixL]
set_option maxRecDepth 100000 in
set_option maxHeartbeats 1000000 in
theorem impl_atOutputs (A0 : Option Addr) (n0 c0 : Nat) (A1 : Option Addr) (n1 c1 : Nat) (z1 : List Int) (A : Option Addr) (n c : Nat) (vs : List Int) (w : World) (h1 : Ints w A1 z1) (l1 : z1.length = n1) (m1 : n1 ≤ 1000000000) (hv : Ints w A vs) (lv : vs.length = n) (ho : wiresOk z1 n) :
    Calls Try.prog 87 #[.agg #[.slice A0 n0 c0, .slice A1 n1 c1], .slice A n c] w (Post_A (outV vs z1) w) := by
  have low1 := below_alloc w (.cells #[.slice A0 n0 c0, .slice A1 n1 c1] 27)
  have bx1 := heap_alloc_new w (.cells #[.slice A0 n0 c0, .slice A1 n1 c1] 27)
  have i1 := h1.bound.below low1
  have iv := (hv.al (.cells #[.slice A0 n0 c0, .slice A1 n1 c1] 27)).bound
  have HW := Lib.hid ho
  have L1 := Lib.hid l1
  have LV := Lib.hid lv
  clear h1 hv l1 lv ho
  go_enter Try.func87, Try.ntmps87
  go_upto_region 1 with (fail)
  generalize hw1 : w.alloc (.cells #[.slice A0 n0 c0, .slice A1 n1 c1] 27) = w1 at *
  clear hw1
  have g0 := (blk (i := 0) bx1 rfl).1
  have g1 := (blk (i := 1) bx1 rfl).1
  go_wp2_with (first | (refine make_fullI Try.underlying25 infoInt rfl rfl _ _ rfl w1.heap.size _ _ _ _ n1 rfl rfl rfl rfl (by omega) (by unfold maxLen; omega) (Nat.le_refl _) ?_))
  intro w2 hown2 hg2
  have hb2 : Below w1.heap.size w1 w2 := (Below.refl _ _).grown hg2 (Nat.le_refl _) (fun k h => by cases h)
  have hh2 := (full_heap hown2).1
  have bx2 := heap_below bx1 hb2
  have j1 := (i1.below (hb2.mono low1.size)).ints (Nat.le_trans low1.size hb2.size)
  clear hown2 hg2 g0 g1
  have g0 := (blk (i := 0) bx2 rfl).1
  have g1 := (blk (i := 1) bx2 rfl).1
  have LL : Hid ((intVals z1).length = n1) := by rw [intVals_length]; exact L1
  have Hj : Hid (∀ j v, (intVals z1)[j]? = some v → ∃ b o, A1 = some ⟨b, o, none⟩ ∧ w2.cell? (Addr.add ⟨b, o, none⟩ j) = some v) := fun j v hv => by
    have hj : j < z1.length := by
      rcases Nat.lt_or_ge j z1.length with h | h
      · exact h
      · rw [List.getElem?_eq_none (by rw [intVals_length]; exact h)] at hv; cases hv
    obtain ⟨b, o, e, -, hc⟩ := j1.at_ hj
    refine ⟨b, o, e, ?_⟩
    have hadd : (⟨b, o, none⟩ : Addr).add j = ⟨b, o + j, none⟩ := by
      rcases Nat.eq_zero_or_pos j with h | h
      · subst h; simp [Addr.add]
      · simp [Addr.add, Nat.ne_of_gt h]
    rw [hadd, hc, ← hv]
    simp [intVals, List.getElem?_map, List.getD_eq_getElem?_getD, List.getElem?_eq_getElem hj]
  have Hpos : Hid (0 < (intVals z1).length → ∃ ad, A1 = some ad ∧ ∀ j v, (intVals z1)[j]? = some v → w2.cell? (ad.add j) = some v) := fun h0 => by
    obtain ⟨b, o, e, -⟩ := Hj.out 0 ((intVals z1)[0]'h0) (List.getElem?_eq_getElem h0)
    refine ⟨_, e, fun j v hv => ?_⟩
    obtain ⟨b', o', e', hc⟩ := Hj.out j v hv
    rw [e] at e'
    injection e' with e'
    injection e' with e1 e2
    subst e1 e2
    exact hc
  clear j1 Hj
  go_upto_region 2 with (fail)
  go_wp2_with (first | (refine wpList_copy_splice rfl _ _ 25 25 rfl 3 Try.underlying25 (by kernel_rfl) (some ⟨w1.heap.size, 0, none⟩) A1 n1 n1 n1 c1 rfl rfl w1.heap.size 0 (List.replicate n1 (.int .i64 0)) 3 hh2 (intVals z1) (by rw [LL.out]; exact (Nat.min_self _).symm) (fun h0 => ⟨rfl, Hpos.out h0⟩) (by rw [LL.out]; simp) (oneCell_i64 z1) w1.heap.size w1 hb2 (Nat.le_refl _) ?_))
  intro w3 hh3 hb3
  have Hg : Hid (Grow w1 w3 (.slice (some ⟨w1.heap.size, 0, none⟩) n1 n1) n1 (mixL vs z1 0)) := ⟨full_own (by
    have h := hh3.out
    rw [show splice (List.replicate n1 (Value.int .i64 0)) 0 (intVals z1) = intVals z1 by simp [splice, LL.out]] at h
    simpa [mixL, outV] using h) (Nat.le_refl _) (by rw [intVals_length, mix_length]; exact L1.out) (by unfold maxLen; omega), hb3⟩
  clear hh2 hh3 hb2 bx2 g0 g1 Hpos hb3
  go_wp2_with fail
  go_loopw [18] (fun i wr => ∃ k : Nat, k ≤ n1 ∧ i = .int .i64 k ∧ Grow w1 wr (.slice (some ⟨w1.heap.size, 0, none⟩) n1 n1) n1 (mixL vs z1 k)) (fun i _ => n1 - (intOf i).toNat)
  case atStart => exact ⟨0, Nat.zero_le _, rfl, Hg.out⟩
  case round =>
    obtain ⟨k, hk, rfl, gr⟩ := hrel
    clear Hg
    by_cases hlt : k < n1
    · have hlt' : k < z1.length := by rw [L1.out]; exact hlt
      obtain ⟨u0, f0⟩ := gr.at_ hlt
      rw [mix_at vs z1 hlt'] at u0
      obtain ⟨y0, y1⟩ := HW.out _ (gD_mem (d := 0) hlt')
      obtain ⟨g, o, rfl, -, q0⟩ := (iv.below gr.low).at_ (j := (z1.getD k 0).toNat) (by rw [LV.out]; omega)
      have Hn : Hid (∀ x, vs.getD (z1.getD k 0).toNat 0 = x → (mixL vs z1 k).set k x = mixL vs z1 (k + 1)) := fun x hx => by rw [← hx]; exact mix_set vs z1 hlt'
      generalize z1.getD k 0 = y at *
      generalize vs.getD y.toNat 0 = x at *
      have hs := gr.set (Nat.le_refl _) k x
      rw [Hn.out x rfl] at hs
      have Hs := Lib.hid hs
      have k0 : (0 : Int) ≤ k := by omega
      have k1 : (k : Int) < n1 := by omega
      clear hs Hn gr i1 hlt'
      go_wp2_with fail
      go_roundw
      case rel => exact ⟨k + 1, by omega, by go_num, Hs.out⟩
      case measure => simp [intOf]; omega
    · obtain rfl : k = n1 := by omega
      have e1 := mix_all vs z1
      rw [L1.out] at e1
      rw [e1] at gr
      have hd := gr.done
      obtain ⟨A', m', c', he, hl, ho, hb⟩ := hd
      injection he with he
      injection he with he1 he2 he3
      subst he1 he2 he3
      have O := Lib.hid (ho.any.wide low1.size (Nat.le_refl _))
      have lowx := low1.trans (hb.mono low1.size)
      clear gr ho hl hb e1
      go_wp2_with fail
      go_ret
      exact ⟨_, _, _, rfl, O.out, lowx⟩
end Go.Proofs.Ytfpcjgolcbjnjaa
