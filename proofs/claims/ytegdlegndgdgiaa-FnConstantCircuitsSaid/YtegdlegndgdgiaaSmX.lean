/- Pruning: Prune, the model's. No condition. -/
import Derived.Test.YtegdlegndgdgiaaProg
import Derived.Test.YtegdlegndgdgiaaSmW
namespace Go.Proofs.Ytegdlegndgdgiaa
open Go Go.RowKit
/-- The new numbers of the first i wires. -/
def toL (L : List Bool) (n i : Nat) : List Int := (List.range n).map fun j : Nat => if j < i ∧ fl L j = true then ((rnk L j : Nat) : Int) else 0
theorem toL_length (L : List Bool) (n i : Nat) : (toL L n i).length = n := by simp [toL]
theorem toL_get (L : List Bool) {n i j : Nat} (h : j < n) : (toL L n i)[j]? = some (if j < i ∧ fl L j = true then ((rnk L j : Nat) : Int) else 0) := by
  unfold toL
  rw [List.getElem?_map, List.getElem?_range h]
  rfl
theorem toL_at {L : List Bool} {n i j : Nat} (h : j < n) (hi : j < i) (hf : fl L j = true) : (toL L n i).getD j 0 = (rnk L j : Nat) := by
  rw [List.getD_eq_getElem?_getD, toL_get L h, if_pos ⟨hi, hf⟩]
  rfl
theorem toL_zero (L : List Bool) (n : Nat) : toL L n 0 = List.replicate n 0 := by
  apply List.ext_getElem?
  intro j
  by_cases h : j < n
  · rw [toL_get L h, if_neg (by omega), List.getElem?_replicate, if_pos h]
  · rw [List.getElem?_eq_none (by rw [toL_length]; omega), List.getElem?_eq_none (by rw [List.length_replicate]; omega)]
theorem toL_skip {L : List Bool} {n i : Nat} (hf : fl L i = false) : toL L n (i + 1) = toL L n i := by
  apply List.ext_getElem?
  intro j
  by_cases h : j < n
  · rw [toL_get L h, toL_get L h]
    by_cases e : j = i
    · subst e
      rw [if_neg (by rw [hf]; simp), if_neg (by omega)]
    · by_cases e2 : j < i ∧ fl L j = true
      · rw [if_pos e2, if_pos ⟨by omega, e2.2⟩]
      · rw [if_neg e2, if_neg (fun e3 => e2 ⟨by omega, e3.2⟩)]
  · rw [List.getElem?_eq_none (by rw [toL_length]; omega), List.getElem?_eq_none (by rw [toL_length]; omega)]
theorem toL_set {L : List Bool} {n i : Nat} (hi : i < n) (hf : fl L i = true) : (toL L n i).set i (rnk L i : Nat) = toL L n (i + 1) := by
  apply List.ext_getElem?
  intro j
  by_cases h : j < n
  · rw [toL_get L h, List.getElem?_set]
    by_cases e : i = j
    · subst e
      rw [if_pos rfl, if_pos (by rw [toL_length]; exact hi), if_pos ⟨by omega, hf⟩]
    · rw [if_neg e, toL_get L h]
      by_cases e2 : j < i ∧ fl L j = true
      · rw [if_pos e2, if_pos ⟨by omega, e2.2⟩]
      · rw [if_neg e2, if_neg (fun e3 => e2 ⟨by omega, e3.2⟩)]
  · rw [List.getElem?_eq_none (by rw [List.length_set, toL_length]; omega), List.getElem?_eq_none (by rw [toL_length]; omega)]
theorem prO_take (L : List Bool) (os : List Int) {i : Nat} (h : i < os.length) : prO L (os.take (i + 1)) = prO L (os.take i) ++ [((rnk L (os.getD i 0).toNat : Nat) : Int)] := by
  rw [take_snoc h]
  simp [prO]
/-- A new number is noted. -/
theorem Mk.wset {B g m k i b c j : Nat} {w0 wr : World} {v u : Value} {y os ts : List Int} (h : Mk B g w0 wr v u (.slice (some ⟨b, 0, none⟩) i c) m k i y os ts) (x : Int) : Mk B g w0 (wr.setCell ⟨b, j, none⟩ (.int .i64 x)) v u (.slice (some ⟨b, 0, none⟩) i c) m k i y os (ts.set j x) := by
  have hg := grown_box wr b j (.int .i64 x)
  have e0 : (Value.slice (some ⟨b, 0, none⟩) i c).ownBlock = some b := rfl
  refine ⟨h.cir.grown (u := .slice (some ⟨b, 0, none⟩) i c) (by rw [e0]; exact hg) h.wl.ne h.wl.ap, ⟨h.outs.own.kept hg (.inr (fun e => h.ap b e e0)), h.outs.ne, h.outs.ap⟩, ⟨?_, h.wl.ne, h.wl.ap⟩, h.ap, h.low.setCell (p := ⟨b, j, none⟩) (h.wl.own.lt b e0).1 _, Nat.le_trans h.size hg.size, h.ge⟩
  rw [show intVals (ts.set j x) = (intVals ts).set j (.int .i64 x) by simp [intVals, List.map_set]]
  exact (h.wl.own.stored j (.int .i64 x)).1
set_option maxRecDepth 100000 in
set_option maxHeartbeats 4000000 in
theorem spec_Prune (A0 : Option Addr) (n0 c0 : Nat) (z0 : List Int) (A1 : Option Addr) (n1 c1 : Nat) (z1 : List Int) (w : World) (h0 : Ints w A0 z0) (l0 : z0.length = n0 * 3) (m0 : n0 ≤ 2000000) (h1 : Ints w A1 z1) (l1 : z1.length = n1) (m1 : n1 ≤ 2000000) :
    Calls Try.prog 59 #[.agg #[.slice A0 n0 c0, .slice A1 n1 c1]] w (Post_Circuit (pruZ z0 n0 z1) (pruO z0 n0 z1) w) := by
  have k0 := Bx2.start w 31 #[.slice A0 n0 c0, .slice A1 n1 c1] 31 #[.slice none 0 0, .slice none 0 0]
  have i0 := h0.bound
  have i1 := h1.bound
  have L0 := Lib.hid l0
  have L1 := Lib.hid l1
  clear h0 h1 l0 l1
  have cK := fun r hr W j0 j1 => spec_CircuitOk A0 n0 c0 z0 A1 n1 c1 z1 r hr W j0 L0.out (by omega) j1 L1.out (by omega)
  go_enter Try.func59, Try.ntmps59
  go_wp2_with fail
  generalize hw0 : (w.alloc (.cells #[.slice A0 n0 c0, .slice A1 n1 c1] 31)).alloc (.cells #[.slice none 0 0, .slice none 0 0] 31) = w0 at *
  clear hw0
  have x0 := (blk (i := 0) k0.arg rfl).1
  have x1 := (blk (i := 1) k0.arg rfl).1
  have j0 := (i0.below k0.low).ints k0.low.size
  have j1 := (i1.below k0.low).ints k0.low.size
  by_cases hc : cirOk z0 n0 z1
  case neg =>
    have E := Lib.hid (pru_no hc)
    replace cK := cK false (decide_eq_false hc) w0 j0 j1
    clear hc
    go_wp2_with fail
    refine cK.mono ?_
    rintro e w1 ⟨rfl, hb1⟩
    have k1 := k0.next hb1
    have y0 := (blk (i := 0) k1.arg rfl).1
    have y1 := (blk (i := 1) k1.arg rfl).1
    have cC := spec_l14Copy A0 A1 c0 c1 n0 n1 z0 z1 w1 (Ints.below j0 hb1) L0.out m0 (Ints.below j1 hb1) L1.out m1
    clear cK k0 x0 x1 j0 j1 hb1 i0 i1
    go_wp2_with fail
    refine cC.mono ?_
    rintro e w2 ⟨B0, B1, p0, p1, d0, d1, rfl, o0, o1, ap, hb2⟩
    have k2 := k1.next hb2
    have hs := k1.lt
    have hs2 := hb2.size
    obtain ⟨r0, f0⟩ := blk (i := 0) k2.res rfl
    obtain ⟨r1, f1⟩ := blk (i := 1) k2.res rfl
    have R := Lib.hid (heap_set (i := 1) (heap_set (i := 0) k2.res (.slice B0 p0 d0)) (.slice B1 p1 d1))
    have O := Lib.hid (show OwnCircuit w.heap.size w2.heap.size ((w2.setCell ⟨w.heap.size + 1, 0, none⟩ (.slice B0 p0 d0)).setCell ⟨w.heap.size + 1, 1, none⟩ (.slice B1 p1 d1)) (.slice B0 p0 d0) (.slice B1 p1 d1) p0 p1 z0 z1 from ⟨(((OwnA.of_own o0.own).setFar hs _).setFar hs _).wide (by omega) (Nat.le_refl _), (((OwnA.of_own o1.own).setFar hs _).setFar hs _).wide (by omega) (Nat.le_refl _), ap⟩)
    have L := Lib.hid ((k2.low.setCell (p := ⟨w.heap.size + 1, 0, none⟩) (by simp) (.slice B0 p0 d0)).setCell (p := ⟨w.heap.size + 1, 1, none⟩) (by simp) (.slice B1 p1 d1))
    clear o0 o1 ap hb2 cC k1 y0 y1
    go_wp2_with fail
    refine bodyPost_ret (results_cell_row (P := Try.prog) rfl _ _ (w.heap.size + 1) 31 _ (0, 0) _ rfl R.out Try.underlying31 rfl (by kernel_rfl)) rfl ?_
    rw [E.out.1, E.out.2.1]
    exact ⟨B0, B1, p0, p1, d0, d1, rfl, O.out.wide (Nat.le_refl _) (by simp), L.out⟩
  have HE := Lib.hid (And.intro (show pruZ z0 n0 z1 = prA z0 (lv z0 n0 z1) n0 from if_pos hc) (show pruO z0 n0 z1 = prO (lv z0 n0 z1) z1 from if_pos hc))
  have HG := Lib.hid hc
  have HC := Lib.hid (show cls z0 n0 (lv z0 n0 z1) from lv_cls hc.2.1)
  have HO := Lib.hid (show ∀ t, t < n1 → (0 ≤ z1.getD t 0 ∧ z1.getD t 0 < (n0 : Int)) ∧ fl (lv z0 n0 z1) (z1.getD t 0).toNat = true from fun t ht => by
    have hm := gD_mem (xs := z1) (i := t) (d := 0) (by rw [L1.out]; exact ht)
    have hv := hc.2.2 _ hm
    exact ⟨hv, lv_out hc.2.1 (by omega) (by rw [Int.toNat_of_nonneg hv.1]; exact hm)⟩)
  have n6 : n0 ≤ 6000 := hc.1
  replace cK := cK true (decide_eq_true hc) w0 j0 j1
  go_wp2_with fail
  refine cK.mono ?_
  rintro e w1 ⟨rfl, hb1⟩
  have k1 := k0.next hb1
  have i01 := (i0.below k1.low).ints k1.low.size
  have i11 := (i1.below k1.low).ints k1.low.size
  have y0 := (blk (i := 0) k1.arg rfl).1
  have y1 := (blk (i := 1) k1.arg rfl).1
  have cL := spec_l16Live A0 n0 c0 z0 A1 n1 c1 z1 hc w1 i01 L0.out i11 L1.out m1
  have hlt1 := k1.lt
  clear hc cK k0 x0 x1 j0 j1 hb1
  go_wp2_with fail
  refine cL.mono ?_
  rintro e w2 ⟨ql, rfl, fl2, hb2⟩
  have k2 := k1.next hb2
  have hlt2 := k2.lt
  have i02 := (i0.below k2.low).ints k2.low.size
  have i12 := (i1.below k2.low).ints k2.low.size
  have y0 := (blk (i := 0) k2.arg rfl).1
  have y1 := (blk (i := 1) k2.arg rfl).1
  have hql := (World.ownsRow.lt fl2 ql rfl).2
  have hw12 := hb2.size
  have KL := Lib.hid fl2
  clear cL k1 i0 i1 i01 i11 hb2 fl2 hlt1
  generalize lv z0 n0 z1 = L at *
  go_wp2_with (first | (refine make_fullI Try.underlying23 infoInt rfl rfl _ _ rfl w2.heap.size _ _ _ _ n0 rfl rfl rfl rfl (by omega) (by unfold maxLen; omega) (Nat.le_refl _) ?_))
  intro w3 hown3 hg3
  have hb3 : Below w2.heap.size w2 w3 := (Below.refl _ _).grown hg3 (Nat.le_refl _) (fun k h => by cases h)
  have hw3 := (hown3.lt w2.heap.size rfl).2
  have bg := heap_alloc_new w3 (.cells #[.slice none 0 0, .slice none 0 0] 31)
  have M0 : Mk w2.heap.size w3.heap.size w2 (w3.alloc (.cells #[.slice none 0 0, .slice none 0 0] 31)) (.slice none 0 0) (.slice none 0 0) (.slice (some ⟨w2.heap.size, 0, none⟩) n0 n0) 0 0 n0 [] [] (toL L n0 0) := by
    rw [toL_zero]
    refine ⟨⟨bg, World.ownsRow_nil _ _ _ _, by simp [Value.ownBlock]⟩, ⟨World.ownsRow_nil _ _ _ _, by simp [Value.ownBlock], apart.nil _ _ _⟩, ⟨?_, fun e => ?_, fun q e e' => ?_⟩, apart.nil _ _ _, low_alloc hb3 _, by simp; omega, by omega⟩
    · rw [show intVals (List.replicate n0 0) = List.replicate n0 (.int .i64 0) by simp [intVals]]
      exact hown3.alloc _
    · have : w2.heap.size = w3.heap.size := by injection e
      omega
    · simp [Value.ownBlock] at e'
  have g1 : w2.heap.size < w3.heap.size := hw3
  have S0 := Lib.hid M0
  have K2 := Lib.hid k2
  clear M0 bg hown3 hg3 hb3 k2 hw3
  go_wp2_with fail
  go_loopw [6] (fun i wr => ∃ (k : Nat) (v : Value), k ≤ n0 ∧ i = .int .i64 k ∧ Mk w2.heap.size w3.heap.size w2 wr v (.slice none 0 0) (.slice (some ⟨w2.heap.size, 0, none⟩) n0 n0) (rnk L k) 0 n0 (prA z0 L k) [] (toL L n0 k)) (fun i _ => n0 - (intOf i).toNat)
  case atStart => exact ⟨0, _, Nat.zero_le _, rfl, S0.out⟩
  case round =>
    obtain ⟨k, v, hk, rfl, mk⟩ := hrel
    clear S0
    have a0 := cell_on y0 mk.low
    have a1 := cell_on y1 mk.low
    by_cases hlt : k < n0
    · have j0 : (0 : Int) ≤ k := by omega
      have j1 : (k : Int) < n0 := by omega
      obtain ⟨q, o, rfl, hq, e0, e1, e2⟩ := gate_cells ((Ints.bound i02).below mk.low) L0.out hlt
      have ok := HG.out.2.1 k hlt
      obtain ⟨r1, r2⟩ := arg_lt HG.out.2.1 hlt
      have hcl := fun i hi hf ho => HC.out k i hi hf ho
      have HP := Lib.hid (show prA z0 L (k + 1) = if fl L k = true then putG (prA z0 L k) (gk z0 k) (newA L (gk z0 k) (ga z0 k)) (newB L (gk z0 k) (gb z0 k)) else prA z0 L k from rfl)
      have HR := Lib.hid (show rnk L (k + 1) = rnk L k + if fl L k = true then 1 else 0 from rfl)
      have hrk := rnk_le L k
      have HT := Lib.hid (fun (j : Nat) (h : j < k) (hf : fl L j = true) => toL_at (n := n0) (show j < n0 by omega) h hf)
      have hcA := Lib.hid (fun (h : one1 (gk z0 k)) (hf : fl L k = true) => HC.out k (ga z0 k).toNat hlt hf (.inl ⟨h, by have := r1 h; omega⟩))
      have hcB := Lib.hid (fun (h : two (gk z0 k)) (hf : fl L k = true) => HC.out k (gb z0 k).toNat hlt hf (.inr ⟨h, by have := r2 h; omega⟩))
      have f00 := ((KL.out.below (mk.low.mono (Nat.le_refl _))).at_ (i := k) hlt).1
      have HX := Lib.hid (fun h : fl L k = true => toL_set (n := n0) hlt h)
      have HY := Lib.hid (fun h : fl L k = false => toL_skip (n := n0) h)
      clear hcl
      generalize gk z0 k = kd at *
      generalize ga z0 k = a at *
      generalize gb z0 k = b at *
      generalize prA z0 L k = Y at *
      generalize rnk L k = m at *
      generalize toL L n0 k = TT at *
      have al := below_alloc wr (.cells #[.int .i64 kd, .int .i64 a, .int .i64 b] 45)
      have bb := heap_alloc_new wr (.cells #[.int .i64 kd, .int .i64 a, .int .i64 b] 45)
      have hgs := mk.cir.lt
      have f0 := cell_on f00 al
      clear f00
      go_upto_region 10 with (fail)
      generalize wr.alloc (.cells #[.int .i64 kd, .int .i64 a, .int .i64 b] 45) = wa at *
      cases hf : fl L k with
      | false =>
        rw [hf] at f0
        have H := Lib.hid (show Mk w2.heap.size w3.heap.size w2 wa v (.slice none 0 0) (.slice (some ⟨w2.heap.size, 0, none⟩) n0 n0) (rnk L (k + 1)) 0 n0 (prA z0 L (k + 1)) [] (toL L n0 (k + 1)) by
          rw [HP.out, HR.out, HY.out hf, if_neg (by rw [hf]; simp), if_neg (by rw [hf]; simp)]
          exact mk.below al)
        clear mk hf HP HR HT hcA hcB HX HY
        go_wp2_with fail
        go_roundw
        case rel => exact ⟨k + 1, v, by omega, by go_num, H.out⟩
        case measure => simp [intOf]; omega
      | true =>
        rw [hf] at f0
        have HR1 := Lib.hid (show rnk L (k + 1) = m + 1 by rw [HR.out, if_pos hf])
        have HX1 := Lib.hid (HX.out hf)
        clear HR HX HY
        rcases ok with ⟨rfl, ha, rfl⟩ | ⟨rfl, ha, rfl⟩ | ⟨hk2, ha, hb⟩ | ⟨rfl, ha, rfl⟩
        · have cT := spec_l16Two 1 false (decide_eq_false (by unfold two; omega))
          have HP1 := Lib.hid (show prA z0 L (k + 1) = putG Y 1 a 0 by rw [HP.out, if_pos hf, show newA L 1 a = a from if_neg (by unfold one1; omega), show newB L 1 0 = 0 from if_neg (by unfold two; omega)])
          have c0 := (blk (i := 0) (u := .int .i64 1) bb rfl).1
          have bq := bb
          have hq := al
          clear HP HT hcA hcB bb al
          go_upto_region 15 with (first | (go_at_call 120; (with_reducible refine (cT _).mono ?_); rintro e9 w9 ⟨rfl, rfl⟩))
          have mkq := mk.below hq
          obtain ⟨As, ms, cs, rfl, rfl⟩ := ownsRow_slice mkq.cir.own
          have g0 := (blk (i := 0) (u := .slice As m cs) mkq.cir.box rfl).1
          obtain ⟨t0, t1⟩ := mkq.wl.at_ (j := k) hlt
          have mks := Lib.hid (mkq.wset (j := k) (m : Int))
          have bs := Lib.hid (heap_far bq (p := ⟨w2.heap.size, k, none⟩) (show wr.heap.size ≠ w2.heap.size by omega) (.int .i64 (m : Int)))
          clear mk mkq bq hq
          go_upto_region 16 with (first | (go_at_call 120; (with_reducible refine (cT _).mono ?_); rintro e9 w9 ⟨rfl, rfl⟩))
          generalize wa.setCell ⟨w2.heap.size, k, none⟩ (.int .i64 (m : Int)) = ws at *
          have mk2 := mks.out
          have b2 := bs.out
          rw [HX1.out] at mk2
          have u0 := (blk (i := 0) (u := .int .i64 (1)) b2 rfl).1
          have u1 := (blk (i := 1) (u := .int .i64 (a)) b2 rfl).1
          have u2 := (blk (i := 2) (u := .int .i64 (0)) b2 rfl).1
          have g0 := (blk (i := 0) (u := .slice As m cs) mk2.cir.box rfl).1
          have h0 := mk2.alloc (.cells #[.int .i64 (1), .int .i64 (a), .int .i64 (0)] 45)
          have sz := mk2.size
          clear t0 t1 mks bs b2 mk2
          go_wp2_with (first | (at_builtin; refine app_list (e' := 45) elemGate rfl _ _ rfl w2.heap.size (.slice As m cs) m (intVals Y) rfl h0.cir.own ws.heap.size 1 1 _ (0, 0) rfl (heap_alloc_new ws _) rfl (oneCell_i64 [_, _, _]) (by omega) (by unfold maxLen; omega) (by omega) (by simp; omega) (ws.heap.size + 1) (by simp) ?_))
          intro g5 e5 w5 ho5 hg5 hat5 hl5
          obtain ⟨a5, f5⟩ := blk (i := 0) (u := .slice As m cs) (heap_grown h0.cir.box hg5 h0.cir.ne) rfl
          obtain ⟨p1, p2⟩ := h0.cir.put ho5 hg5 hat5 (by simp)
          have H := Lib.hid (h0.next p1 p2)
          clear p1 p2 ho5 hg5 hat5 hl5 h0 g0 u0 u1 u2
          go_wp2_with fail
          go_roundw
          case rel => exact ⟨k + 1, _, by omega, by go_num, by rw [HP1.out, HR1.out]; exact H.out⟩
          case measure => simp [intOf]; omega
        · have cT := spec_l16Two 2 false (decide_eq_false (by unfold two; omega))
          have HP1 := Lib.hid (show prA z0 L (k + 1) = putG Y 2 a 0 by rw [HP.out, if_pos hf, show newA L 2 a = a from if_neg (by unfold one1; omega), show newB L 2 0 = 0 from if_neg (by unfold two; omega)])
          have c0 := (blk (i := 0) (u := .int .i64 2) bb rfl).1
          have bq := bb
          have hq := al
          clear HP HT hcA hcB bb al
          go_upto_region 15 with (first | (go_at_call 120; (with_reducible refine (cT _).mono ?_); rintro e9 w9 ⟨rfl, rfl⟩))
          have mkq := mk.below hq
          obtain ⟨As, ms, cs, rfl, rfl⟩ := ownsRow_slice mkq.cir.own
          have g0 := (blk (i := 0) (u := .slice As m cs) mkq.cir.box rfl).1
          obtain ⟨t0, t1⟩ := mkq.wl.at_ (j := k) hlt
          have mks := Lib.hid (mkq.wset (j := k) (m : Int))
          have bs := Lib.hid (heap_far bq (p := ⟨w2.heap.size, k, none⟩) (show wr.heap.size ≠ w2.heap.size by omega) (.int .i64 (m : Int)))
          clear mk mkq bq hq
          go_upto_region 16 with (first | (go_at_call 120; (with_reducible refine (cT _).mono ?_); rintro e9 w9 ⟨rfl, rfl⟩))
          generalize wa.setCell ⟨w2.heap.size, k, none⟩ (.int .i64 (m : Int)) = ws at *
          have mk2 := mks.out
          have b2 := bs.out
          rw [HX1.out] at mk2
          have u0 := (blk (i := 0) (u := .int .i64 (2)) b2 rfl).1
          have u1 := (blk (i := 1) (u := .int .i64 (a)) b2 rfl).1
          have u2 := (blk (i := 2) (u := .int .i64 (0)) b2 rfl).1
          have g0 := (blk (i := 0) (u := .slice As m cs) mk2.cir.box rfl).1
          have h0 := mk2.alloc (.cells #[.int .i64 (2), .int .i64 (a), .int .i64 (0)] 45)
          have sz := mk2.size
          clear t0 t1 mks bs b2 mk2
          go_wp2_with (first | (at_builtin; refine app_list (e' := 45) elemGate rfl _ _ rfl w2.heap.size (.slice As m cs) m (intVals Y) rfl h0.cir.own ws.heap.size 1 1 _ (0, 0) rfl (heap_alloc_new ws _) rfl (oneCell_i64 [_, _, _]) (by omega) (by unfold maxLen; omega) (by omega) (by simp; omega) (ws.heap.size + 1) (by simp) ?_))
          intro g5 e5 w5 ho5 hg5 hat5 hl5
          obtain ⟨a5, f5⟩ := blk (i := 0) (u := .slice As m cs) (heap_grown h0.cir.box hg5 h0.cir.ne) rfl
          obtain ⟨p1, p2⟩ := h0.cir.put ho5 hg5 hat5 (by simp)
          have H := Lib.hid (h0.next p1 p2)
          clear p1 p2 ho5 hg5 hat5 hl5 h0 g0 u0 u1 u2
          go_wp2_with fail
          go_roundw
          case rel => exact ⟨k + 1, _, by omega, by go_num, by rw [HP1.out, HR1.out]; exact H.out⟩
          case measure => simp [intOf]; omega
        · have cT := spec_l16Two kd true (decide_eq_true hk2)
          have h2 : two kd := hk2
          have h1 : one1 kd := by unfold one1; unfold two at h2; omega
          obtain ⟨p0, p1⟩ := r1 h1
          obtain ⟨p2, p3⟩ := r2 h2
          have ta := HT.out a.toNat p1 (hcA.out h1 hf)
          have tb := HT.out b.toNat p3 (hcB.out h2 hf)
          have HP1 := Lib.hid (show prA z0 L (k + 1) = putG Y kd (rnk L a.toNat : Nat) (rnk L b.toNat : Nat) by rw [HP.out, if_pos hf, show newA L kd a = (rnk L a.toNat : Nat) from if_pos h1, show newB L kd b = (rnk L b.toNat : Nat) from if_pos h2])
          have u1 : a < (n0 : Int) := by omega
          have u2 : b < (n0 : Int) := by omega
          have mka := mk.below al
          have ca := (mka.wl.at_ (j := a.toNat) (by omega)).1
          have cb := (mka.wl.at_ (j := b.toNat) (by omega)).1
          rw [ta] at ca
          rw [tb] at cb
          generalize ((rnk L a.toNat : Nat) : Int) = x at *
          generalize ((rnk L b.toNat : Nat) : Int) = y at *
          have c0 := (blk (i := 0) (u := .int .i64 kd) bb rfl).1
          obtain ⟨c1, d1⟩ := blk (i := 1) (u := .int .i64 a) bb rfl
          have bb1 : (wa.setCell ⟨wr.heap.size, 1, none⟩ (.int .i64 x)).heap[wr.heap.size]? = some (.cells #[.int .i64 kd, .int .i64 x, .int .i64 b] 45 (0, 0)) := by simpa using heap_set (i := 1) bb (.int .i64 x)
          have al1 := al.setCell (p := ⟨wr.heap.size, 1, none⟩) (Nat.le_refl _) (.int .i64 x)
          have cb1 := far_one (i := 1) cb (show w2.heap.size ≠ wr.heap.size by omega) (.int .i64 x)
          have S1 := Lib.hid (And.intro bb1 (And.intro al1 cb1))
          clear HP HT hcA hcB bb al bb1 al1 cb1 mka ta tb cb
          go_upto_region 13 with (first | (go_at_call 120; (with_reducible refine (cT _).mono ?_); rintro e9 w9 ⟨rfl, rfl⟩))
          generalize wa.setCell ⟨wr.heap.size, 1, none⟩ (.int .i64 x) = wb at *
          obtain ⟨bb1, al1, cb1⟩ := S1.out
          clear S1 ca c0 c1 d1
          have c0 := (blk (i := 0) (u := .int .i64 kd) bb1 rfl).1
          obtain ⟨c2, d2⟩ := blk (i := 2) (u := .int .i64 b) bb1 rfl
          have bb2 : (wb.setCell ⟨wr.heap.size, 2, none⟩ (.int .i64 y)).heap[wr.heap.size]? = some (.cells #[.int .i64 kd, .int .i64 x, .int .i64 y] 45 (0, 0)) := by simpa using heap_set (i := 2) bb1 (.int .i64 y)
          have al2 := al1.setCell (p := ⟨wr.heap.size, 2, none⟩) (Nat.le_refl _) (.int .i64 y)
          have S2 := Lib.hid (And.intro bb2 al2)
          clear bb1 al1 bb2 al2
          go_upto_region 15 with (first | (go_at_call 120; (with_reducible refine (cT _).mono ?_); rintro e9 w9 ⟨rfl, rfl⟩))
          generalize wb.setCell ⟨wr.heap.size, 2, none⟩ (.int .i64 y) = wc at *
          obtain ⟨bq, hq⟩ := S2.out
          clear S2 cb1 c0 c2 d2
          have mkq := mk.below hq
          obtain ⟨As, ms, cs, rfl, rfl⟩ := ownsRow_slice mkq.cir.own
          have g0 := (blk (i := 0) (u := .slice As m cs) mkq.cir.box rfl).1
          obtain ⟨t0, t1⟩ := mkq.wl.at_ (j := k) hlt
          have mks := Lib.hid (mkq.wset (j := k) (m : Int))
          have bs := Lib.hid (heap_far bq (p := ⟨w2.heap.size, k, none⟩) (show wr.heap.size ≠ w2.heap.size by omega) (.int .i64 (m : Int)))
          clear mk mkq bq hq
          go_upto_region 16 with (first | (go_at_call 120; (with_reducible refine (cT _).mono ?_); rintro e9 w9 ⟨rfl, rfl⟩))
          generalize wc.setCell ⟨w2.heap.size, k, none⟩ (.int .i64 (m : Int)) = ws at *
          have mk2 := mks.out
          have b2 := bs.out
          rw [HX1.out] at mk2
          have u0 := (blk (i := 0) (u := .int .i64 (kd)) b2 rfl).1
          have u1 := (blk (i := 1) (u := .int .i64 (x)) b2 rfl).1
          have u2 := (blk (i := 2) (u := .int .i64 (y)) b2 rfl).1
          have g0 := (blk (i := 0) (u := .slice As m cs) mk2.cir.box rfl).1
          have h0 := mk2.alloc (.cells #[.int .i64 (kd), .int .i64 (x), .int .i64 (y)] 45)
          have sz := mk2.size
          clear t0 t1 mks bs b2 mk2
          go_wp2_with (first | (at_builtin; refine app_list (e' := 45) elemGate rfl _ _ rfl w2.heap.size (.slice As m cs) m (intVals Y) rfl h0.cir.own ws.heap.size 1 1 _ (0, 0) rfl (heap_alloc_new ws _) rfl (oneCell_i64 [_, _, _]) (by omega) (by unfold maxLen; omega) (by omega) (by simp; omega) (ws.heap.size + 1) (by simp) ?_))
          intro g5 e5 w5 ho5 hg5 hat5 hl5
          obtain ⟨a5, f5⟩ := blk (i := 0) (u := .slice As m cs) (heap_grown h0.cir.box hg5 h0.cir.ne) rfl
          obtain ⟨p1, p2⟩ := h0.cir.put ho5 hg5 hat5 (by simp)
          have H := Lib.hid (h0.next p1 p2)
          clear p1 p2 ho5 hg5 hat5 hl5 h0 g0 u0 u1 u2
          go_wp2_with fail
          go_roundw
          case rel => exact ⟨k + 1, _, by omega, by go_num, by rw [HP1.out, HR1.out]; exact H.out⟩
          case measure => simp [intOf]; omega
        · have cT := spec_l16Two 5 false (decide_eq_false (by unfold two; omega))
          have h1 : one1 5 := by unfold one1; omega
          obtain ⟨p0, p1⟩ := r1 h1
          have ta := HT.out a.toNat p1 (hcA.out h1 hf)
          have HP1 := Lib.hid (show prA z0 L (k + 1) = putG Y 5 (rnk L a.toNat : Nat) 0 by rw [HP.out, if_pos hf, show newA L 5 a = (rnk L a.toNat : Nat) from if_pos h1, show newB L 5 0 = 0 from if_neg (by unfold two; omega)])
          have u1 : a < (n0 : Int) := by omega
          have mka := mk.below al
          have ca := (mka.wl.at_ (j := a.toNat) (by omega)).1
          rw [ta] at ca
          generalize ((rnk L a.toNat : Nat) : Int) = x at *
          have c0 := (blk (i := 0) (u := .int .i64 5) bb rfl).1
          obtain ⟨c1, d1⟩ := blk (i := 1) (u := .int .i64 a) bb rfl
          have bb1 : (wa.setCell ⟨wr.heap.size, 1, none⟩ (.int .i64 x)).heap[wr.heap.size]? = some (.cells #[.int .i64 5, .int .i64 x, .int .i64 0] 45 (0, 0)) := by simpa using heap_set (i := 1) bb (.int .i64 x)
          have al1 := al.setCell (p := ⟨wr.heap.size, 1, none⟩) (Nat.le_refl _) (.int .i64 x)
          have S1 := Lib.hid (And.intro bb1 al1)
          clear HP HT hcA hcB bb al bb1 al1 mka ta
          go_upto_region 13 with (first | (go_at_call 120; (with_reducible refine (cT _).mono ?_); rintro e9 w9 ⟨rfl, rfl⟩))
          generalize wa.setCell ⟨wr.heap.size, 1, none⟩ (.int .i64 x) = wb at *
          obtain ⟨bq, hq⟩ := S1.out
          clear S1 ca c0 c1 d1
          have c0 := (blk (i := 0) (u := .int .i64 5) bq rfl).1
          go_upto_region 15 with (first | (go_at_call 120; (with_reducible refine (cT _).mono ?_); rintro e9 w9 ⟨rfl, rfl⟩))
          have mkq := mk.below hq
          obtain ⟨As, ms, cs, rfl, rfl⟩ := ownsRow_slice mkq.cir.own
          have g0 := (blk (i := 0) (u := .slice As m cs) mkq.cir.box rfl).1
          obtain ⟨t0, t1⟩ := mkq.wl.at_ (j := k) hlt
          have mks := Lib.hid (mkq.wset (j := k) (m : Int))
          have bs := Lib.hid (heap_far bq (p := ⟨w2.heap.size, k, none⟩) (show wr.heap.size ≠ w2.heap.size by omega) (.int .i64 (m : Int)))
          clear mk mkq bq hq
          go_upto_region 16 with (first | (go_at_call 120; (with_reducible refine (cT _).mono ?_); rintro e9 w9 ⟨rfl, rfl⟩))
          generalize wb.setCell ⟨w2.heap.size, k, none⟩ (.int .i64 (m : Int)) = ws at *
          have mk2 := mks.out
          have b2 := bs.out
          rw [HX1.out] at mk2
          have u0 := (blk (i := 0) (u := .int .i64 (5)) b2 rfl).1
          have u1 := (blk (i := 1) (u := .int .i64 (x)) b2 rfl).1
          have u2 := (blk (i := 2) (u := .int .i64 (0)) b2 rfl).1
          have g0 := (blk (i := 0) (u := .slice As m cs) mk2.cir.box rfl).1
          have h0 := mk2.alloc (.cells #[.int .i64 (5), .int .i64 (x), .int .i64 (0)] 45)
          have sz := mk2.size
          clear t0 t1 mks bs b2 mk2
          go_wp2_with (first | (at_builtin; refine app_list (e' := 45) elemGate rfl _ _ rfl w2.heap.size (.slice As m cs) m (intVals Y) rfl h0.cir.own ws.heap.size 1 1 _ (0, 0) rfl (heap_alloc_new ws _) rfl (oneCell_i64 [_, _, _]) (by omega) (by unfold maxLen; omega) (by omega) (by simp; omega) (ws.heap.size + 1) (by simp) ?_))
          intro g5 e5 w5 ho5 hg5 hat5 hl5
          obtain ⟨a5, f5⟩ := blk (i := 0) (u := .slice As m cs) (heap_grown h0.cir.box hg5 h0.cir.ne) rfl
          obtain ⟨p1, p2⟩ := h0.cir.put ho5 hg5 hat5 (by simp)
          have H := Lib.hid (h0.next p1 p2)
          clear p1 p2 ho5 hg5 hat5 hl5 h0 g0 u0 u1 u2
          go_wp2_with fail
          go_roundw
          case rel => exact ⟨k + 1, _, by omega, by go_num, by rw [HP1.out, HR1.out]; exact H.out⟩
          case measure => simp [intOf]; omega
    · obtain rfl : k = n0 := by omega
      have S0 := Lib.hid (show Mk w2.heap.size w3.heap.size w2 wr v (.slice none 0 0) (.slice (some ⟨w2.heap.size, 0, none⟩) k k) (rnk L k) 0 k (prA z0 L k) (prO L (z1.take 0)) (toL L k k) from mk)
      have hrk := rnk_le L k
      have HT := Lib.hid (fun t (ht : t < n1) => prO_take L z1 (i := t) (by rw [L1.out]; exact ht))
      have HV := Lib.hid (fun t (ht : t < n1) => toL_at (n := k) (i := k) (show (z1.getD t 0).toNat < k by have := (HO.out t ht).1; omega) (by have := (HO.out t ht).1; omega) (HO.out t ht).2)
      clear mk a1
      generalize prA z0 L k = Y at *
      generalize rnk L k = m at *
      generalize toL L k k = TT at *
      go_wp2_with fail
      go_loopw [8] (fun i wr => ∃ (t : Nat) (u : Value), t ≤ n1 ∧ i = .int .i64 t ∧ Mk w2.heap.size w3.heap.size w2 wr v u (.slice (some ⟨w2.heap.size, 0, none⟩) k k) m t k Y (prO L (z1.take t)) TT) (fun i _ => n1 - (intOf i).toNat)
      case atStart => exact ⟨0, _, Nat.zero_le _, rfl, S0.out⟩
      case round =>
        obtain ⟨t, u, ht, rfl, mk⟩ := hrel
        clear S0
        have a1 := cell_on y1 mk.low
        by_cases hlt : t < n1
        · have t0 : (0 : Int) ≤ t := by omega
          have t1 : (t : Int) < n1 := by omega
          obtain ⟨q1, o1, rfl, _, ce⟩ := ((Ints.bound i12).below mk.low).at_ (j := t) (by rw [L1.out]; exact hlt)
          obtain ⟨⟨v0, v1⟩, vf⟩ := HO.out t hlt
          have HT1 := Lib.hid (HT.out t hlt)
          have HV1 := HV.out t hlt
          have cx := (mk.wl.at_ (j := (z1.getD t 0).toNat) (by omega)).1
          rw [HV1] at cx
          clear HV1 vf
          generalize z1.getD t 0 = y at *
          generalize ((rnk L y.toNat : Nat) : Int) = x at *
          obtain ⟨Au, mu, cu, rfl, rfl⟩ := ownsRow_slice mk.outs.own
          have hgl := mk.cir.lt
          have gs := mk.size
          have M1 := mk.alloc (.cells #[.int .i64 x] 3)
          have hd := M1.drew
          have hbk : (wr.alloc (.cells #[.int .i64 x] 3)).drew.heap[wr.heap.size]? = some (.cells #[.int .i64 x] 3 (0, 0)) := heap_alloc_new wr _
          have b1 := (blk (i := 1) (u := .slice Au t cu) mk.cir.box rfl).1
          have b2 := (blk (i := 1) (u := .slice Au t cu) M1.cir.box rfl).1
          have Hmk := Lib.hid mk
          generalize prO L (z1.take t) = OS at *
          clear mk
          go_upto_region 20 with (fail)
          go_region_law (first
            | (refine app_step (e' := 3) elemInt (by rfl) _ _ (by rfl) w2.heap.size (.slice Au t cu) t (intVals OS) (by rfl) hd.outs.own wr.heap.size 1 1 _ (0, 0) (by rfl) hbk (by rfl) (oneCell_i64 [_]) (by omega) (by unfold maxLen; omega) (by omega) (by simp; omega) (wr.heap.size + 1) (by simp) ?_; intro g8 e8 w8 ho8 hg8 hat8 hl8; (obtain ⟨f8, fz8⟩ := blk (i := 1) (u := .slice Au t cu) (heap_grown hd.cir.box hg8 hd.outs.ne) rfl)))
          all_goals
            have H := Lib.hid (Hmk.out.out ho8 ⟨hg8.os, hg8.tape, hg8.output, hg8.size, hg8.block⟩ hat8)
            clear ho8 hg8 hat8 hl8 f8 fz8 hbk b1 b2 hd M1 ce cx a1
            go_wp2_with fail
            go_roundw
            case rel => exact ⟨t + 1, _, by omega, by go_num, by rw [HT1.out]; exact H.out⟩
            case measure => simp [intOf]; omega
        · obtain rfl : t = n1 := by omega
          have eo : prO L (z1.take t) = prO L z1 := by rw [List.take_of_length_le (by rw [L1.out]; exact Nat.le_refl _)]
          rw [eo] at mk
          have kw := K2.out.next mk.low
          have hs2 := mk.size
          obtain ⟨A3, q3, c3, rfl, rfl⟩ := ownsRow_slice mk.cir.own
          obtain ⟨A4, q4, c4, rfl, rfl⟩ := ownsRow_slice mk.outs.own
          have g0 := (blk (i := 0) (u := .slice A3 m c3) mk.cir.box rfl).1
          have g1 := (blk (i := 1) (u := .slice A4 t c4) mk.cir.box rfl).1
          obtain ⟨r0, f0⟩ := blk (i := 0) kw.res rfl
          obtain ⟨r1, f1⟩ := blk (i := 1) kw.res rfl
          have R := Lib.hid (heap_set (i := 1) (heap_set (i := 0) kw.res (.slice A3 m c3)) (.slice A4 t c4))
          have O := Lib.hid (show OwnCircuit w.heap.size wr.heap.size ((wr.setCell ⟨w.heap.size + 1, 0, none⟩ (.slice A3 m c3)).setCell ⟨w.heap.size + 1, 1, none⟩ (.slice A4 t c4)) (.slice A3 m c3) (.slice A4 t c4) m t Y (prO L z1) from ⟨(((OwnA.of_own mk.cir.own).setFar hlt2 _).setFar hlt2 _).wide (by omega) (Nat.le_refl _), (((OwnA.of_own mk.outs.own).setFar hlt2 _).setFar hlt2 _).wide (by omega) (Nat.le_refl _), mk.outs.ap.symm⟩)
          have L := Lib.hid ((kw.low.setCell (p := ⟨w.heap.size + 1, 0, none⟩) (by simp) (.slice A3 m c3)).setCell (p := ⟨w.heap.size + 1, 1, none⟩) (by simp) (.slice A4 t c4))
          clear mk kw
          go_wp2_with fail
          refine bodyPost_ret (results_cell_row (P := Try.prog) rfl _ _ (w.heap.size + 1) 31 _ (0, 0) _ rfl R.out Try.underlying31 rfl (by kernel_rfl)) rfl ?_
          rw [HE.out.1, HE.out.2]
          exact ⟨A3, A4, m, t, c3, c4, rfl, O.out.wide (Nat.le_refl _) (by simp), L.out⟩
end Go.Proofs.Ytegdlegndgdgiaa
