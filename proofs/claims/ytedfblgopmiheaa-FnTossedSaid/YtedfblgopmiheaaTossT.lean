/- The law FnTossed. -/
import Derived.Test.YtedfblgopmiheaaProg
import Derived.Test.YtedfblgopmiheaaTossN
import Derived.Test.YtedfblgopmiheaaFieldW
import Derived.RegionTactic
import Derived.BigRegion
namespace Go.Proofs.Ytedfblgopmiheaa
open Go Go.RowKit
theorem cell_below' {w w' : World} {p : Addr} {v : Value} (hc : w.cell? p = some v) (hb : Below w.heap.size w w') : w'.cell? p = some v :=
  (hb.cell (World.block_lt_of_cell? w p hc)).trans hc
theorem Ints.alloc' {w : World} {A : Option Addr} {zs : List Int} (h : Ints w A zs) (o : Obj) : Ints (w.alloc o) A zs := h.below ((Below.refl _ _).alloc (Nat.le_refl _) o)
theorem intVals_set (zs : List Int) (k : Nat) (v : Int) : (intVals zs).set k (.int .i64 v) = intVals (zs.set k v) := by simp [intVals, List.map_set]
/-- A cut of a slice. -/
theorem Ints.cut {w : World} {g o lo n : Nat} {zs : List Int} (h : Ints w (some ⟨g, o, none⟩) zs) (hl : lo + n ≤ zs.length) : Ints w (some ⟨g, o + lo, none⟩) ((zs.drop lo).take n) := fun h0 => by
  have hlen : ((zs.drop lo).take n).length = n := by rw [List.length_take, List.length_drop]; omega
  obtain ⟨b, o', e, hb, hc⟩ := h (by omega)
  injection e with e
  injection e with e1 e2
  subst e1 e2
  refine ⟨g, o + lo, rfl, hb, fun j hj => ?_⟩
  rw [hlen] at hj
  rw [Nat.add_assoc, hc (lo + j) (by omega)]
  simp [List.getD_eq_getElem?_getD, List.getElem?_take_of_lt hj, List.getElem?_drop]
theorem cut_len {lo n : Nat} {zs : List Int} (hl : lo + n ≤ zs.length) : ((zs.drop lo).take n).length = n := by rw [List.length_take, List.length_drop]; omega
theorem cut_places {lo n : Nat} {zs : List Int} (h : places zs) : places ((zs.drop lo).take n) := fun z hz => h z (List.mem_of_mem_drop (List.mem_of_mem_take hz))
theorem canC_places {a b : Int} (ha : 0 ≤ a ∧ a < 10000) (hb : 0 ≤ b ∧ b < 10000) : canC a b := ⟨by unfold isWord; omega, by omega, by omega⟩
section
variable {x y : List Int} {n : Nat}
theorem tossOk_places (hx : places x) (hy : places y) (lx : x.length = n) (ly : y.length = n) (h1 : 1 ≤ n) (h5 : n ≤ 5) : tossOk x y :=
  ⟨by omega, by omega, by omega, fun j hj => canC_places (hx.at_ hj) (hy.at_ (by omega))⟩
theorem tossC_at {j : Nat} (h : j < n) : (tossC x y n).getD j 0 = commitI (x.getD j 0) (y.getD j 0) := by simp [tossC, List.getD_eq_getElem?_getD, h]
theorem opens_made (hx : places x) (hy : places y) (lx : x.length = n) (ly : y.length = n) {j : Nat} (hj : j < n) : opensAt x y (tossC x y n) j := by
  unfold opensAt
  rw [tossC_at hj]
  exact opensC_self (canC_places (hx.at_ (by omega)) (hy.at_ (by omega)))
theorem tossed_made (hx : places x) (hy : places y) (lx : x.length = n) (ly : y.length = n) (h1 : 1 ≤ n) (h5 : n ≤ 5) : tossed x y (tossC x y n) :=
  ⟨⟨by omega, by rw [tossC_length]; omega⟩, by omega, by omega, cheatI_none (fun j hj => opens_made hx hy lx ly (by omega))⟩
theorem cheat_turned (hx : places x) (hy : places y) (lx : x.length = n) (ly : y.length = n) {k : Nat} (hk : k < n) : cheatI (x.set k (x.getD k 0 + 1)) y (tossC x y n) = (k : Int) := by
  refine cheatI_at ⟨by rw [List.length_set]; omega, by rw [tossC_length, List.length_set]; omega⟩ (by rw [List.length_set]; omega) (fun j hj => ?_) ?_
  · have h := opens_made hx hy lx ly (j := j) (by omega)
    unfold opensAt at h ⊢
    rw [List.getD_eq_getElem?_getD (l := x.set k _), List.getElem?_set_ne (by omega), ← List.getD_eq_getElem?_getD]
    exact h
  · unfold opensAt
    rw [tossC_at hk, List.getD_eq_getElem?_getD (l := x.set k _), List.getElem?_set_self (by omega), Option.getD_some]
    have a := hx.at_ (j := k) (by omega)
    have b := hy.at_ (j := k) (by omega)
    exact opensC_other (canC_places a b) ⟨by unfold isWord; omega, by omega, by omega⟩ (by omega)
end
set_option maxHeartbeats 1000000 in
theorem FnTossed_walk (A : Option Addr) (n c : Nat) (w : World) (hb : Bytes w.heap.size w A n) (hm : n ≤ 9223372036854775807) :
    Calls Try.prog 4 #[.slice A n c] w fun e w' => e = .returned (.bool true) ∧ Below w.heap.size w w' := by
  by_cases hn : 1048576 < n
  · go_enter Try.func4, Try.ntmps4
    go_wp2_with fail
    refine (big_any A n c w true (by simpa using hn) hm).mono ?_
    rintro e w1 ⟨rfl, rfl⟩
    go_wp2_with fail
    go_ret
    exact ⟨rfl, Below.refl _ _⟩
  · have hn' : n ≤ 1048576 := by omega
    go_enter Try.func4, Try.ntmps4
    go_wp2_with fail
    refine (big_any A n c w false (by simpa using hn') hm).mono ?_
    rintro e w1 ⟨rfl, rfl⟩
    go_wp2_with fail
    refine (DrawPlaces_any A n c w hb (by omega)).mono ?_
    rintro e w1 ⟨g, cap, zs, rfl, hl, hpl, hown, hb1⟩
    have hcap : 12 ≤ cap := by
      rcases hown.2 with ⟨he, _⟩ | ⟨g', cap', cur, he, _, _, h, _⟩
      · cases he
      · injection he with _ _ he; omega
    have hi := Ints.of_own hown
    obtain ⟨q0, o0, e0, hl0, c0⟩ := hi.at_ (j := 0) (by omega)
    obtain ⟨q1, o1, e1, hl1, c1⟩ := hi.at_ (j := 11) (by omega)
    injection e0 with e0; injection e0 with e00 e01
    injection e1 with e1; injection e1 with e10 e11
    subst e00 e01 e10 e11
    obtain ⟨x0, x1⟩ := hpl.at_ (j := 0) (by omega)
    obtain ⟨y0, y1⟩ := hpl.at_ (j := 11) (by omega)
    generalize zs.getD 0 0 = qa at c0 x0 x1
    generalize zs.getD 11 0 = qb at c1 y0 y1
    simp only [Nat.zero_add] at c0 c1
    obtain ⟨m, hm5, hmm⟩ : ∃ m : Nat, qa % 5 = (m : Int) ∧ m < 5 := ⟨(qa % 5).toNat, by omega, by omega⟩
    have i1 := hi.cut (lo := 1) (n := 1 + m) (by omega)
    have i6 := hi.cut (lo := 6) (n := 1 + m) (by omega)
    have L1 := cut_len (lo := 1) (n := 1 + m) (zs := zs) (by omega)
    have L6 := cut_len (lo := 6) (n := 1 + m) (zs := zs) (by omega)
    have P1 := cut_places (lo := 1) (n := 1 + m) hpl
    have P6 := cut_places (lo := 6) (n := 1 + m) hpl
    generalize (zs.drop 1).take (1 + m) = x at i1 L1 P1
    generalize (zs.drop 6).take (1 + m) = y at i6 L6 P6
    simp only [Nat.zero_add] at i1 i6
    have Hm := Lib.hid hm5
    have hlt := hl1
    clear hown hi hpl hl hb hn hm hn'
    go_wp2_with fail
    have hok := tossOk_places P1 P6 L1 L6 (by omega) (by omega)
    have hto := tossed_made P1 P6 L1 L6 (by omega) (by omega)
    have LZ := tossC_length x y (1 + m)
    have HL1 := Lib.hid L1
    have HL6 := Lib.hid L6
    have HLZ := Lib.hid LZ
    refine (impl_TossNew (some ⟨g, 1, none⟩) (some ⟨g, 6, none⟩) (1 + m) (cap - 1) (1 + m) (cap - 6) x y w1 i1 i6 L1 L6 (by omega) (by omega)).mono ?_
    intro e w2 h2
    unfold TossMade at h2
    rw [tX, tY, tZ, if_pos hok, if_pos hok, if_pos hok, decide_eq_true hok, L1] at h2
    obtain ⟨V0, V1, V2, d0, d1, d2, k', rfl, ow, _, hb2⟩ := h2
    obtain rfl : k' = 1 + m := by rw [← ow.o0.len, HL1.out]
    have hcheat := hto.2.2.2
    have htI : tossI x y (tossC x y (1 + m)) = coinN x (1 + m) := by rw [tossI, if_pos hto, L1]
    have hxk : ∀ k, k < 1 + m → cheatI (x.set k (x.getD k 0 + 1)) y (tossC x y (1 + m)) = (k : Int) := fun k hk => cheat_turned P1 P6 L1 L6 hk
    have hdt := decide_eq_true hto
    have HI := Lib.hid htI
    have HC := Lib.hid hcheat
    have HT := Lib.hid hdt
    have HX := Lib.hid hxk
    clear L1 L6 LZ hok hto htI hcheat hxk hdt
    generalize tossC x y (1 + m) = z at *
    have b2 := heap_alloc_new w2 (.cells #[.slice V0 (1 + m) d0, .slice V1 (1 + m) d1, .slice V2 (1 + m) d2] 31)
    have K2 := hb2.alloc hb2.size (.cells #[.slice V0 (1 + m) d0, .slice V1 (1 + m) d1, .slice V2 (1 + m) d2] 31)
    have ow2 := ow.alloc (.cells #[.slice V0 (1 + m) d0, .slice V1 (1 + m) d1, .slice V2 (1 + m) d2] 31)
    have hgx := hb2.size
    clear hb2 i6 c0 ow
    go_wp2_with fail
    generalize w2.alloc (.cells #[.slice V0 (1 + m) d0, .slice V1 (1 + m) d1, .slice V2 (1 + m) d2] 31) = w3 at *
    generalize w2.heap.size = gx at *
    refine (impl_TossCoin V0 V1 V2 d0 d1 d2 (1 + m) (1 + m) (1 + m) x y z w3 ow2.o0.ints ow2.o1.ints ow2.o2.ints HL1.out HL6.out HLZ.out (by omega)).mono ?_
    unfold Coined
    rw [HI.out, HT.out]
    rintro e w4 ⟨rfl, hb⟩
    have b4 := heap_below b2 hb
    have K4 := K2.trans (hb.mono K2.size)
    have ow4 := ow2.below hb
    clear hb b2 K2 ow2
    obtain ⟨a0, _⟩ := blk (i := 0) b4 rfl
    obtain ⟨a1, _⟩ := blk (i := 1) b4 rfl
    obtain ⟨a2, _⟩ := blk (i := 2) b4 rfl
    obtain ⟨co, hco⟩ : ∃ co, coinN x (1 + m) = co := ⟨_, rfl⟩
    rw [hco]
    have Hco := Lib.hid hco
    clear hco
    go_wp2_with fail
    refine (impl_TossCheat V0 V1 V2 d0 d1 d2 (1 + m) (1 + m) (1 + m) x y z w4 ow4.o0.ints ow4.o1.ints ow4.o2.ints HL1.out HL6.out HLZ.out (by omega)).mono ?_
    rw [HC.out]
    rintro e w5 ⟨rfl, hb⟩
    have b5 := heap_below b4 hb
    have K5 := K4.trans (hb.mono K4.size)
    have ow5 := ow4.below hb
    clear hb b4 K4 ow4 a0 a1 a2
    obtain ⟨a0, _⟩ := blk (i := 0) b5 rfl
    have c5 := (K5.cell hl1).trans c1
    obtain ⟨kk, hkk, hkl⟩ : ∃ kk : Nat, qb % (1 + (m : Int)) = (kk : Int) ∧ kk < 1 + m :=
      ⟨(qb % (1 + (m : Int))).toNat, by have := Int.emod_nonneg qb (b := 1 + (m : Int)) (by omega); omega, by have := Int.emod_nonneg qb (b := 1 + (m : Int)) (by omega); have := Int.emod_lt_of_pos qb (b := 1 + (m : Int)) (by omega); omega⟩
    have hown5 := World.ownsRow_made (e := 3) (size := 1) (base := w5.heap.size) w5 #[] 0 (Nat.le_refl _) (by unfold maxLen; omega) rfl
    have hx5 := (ow5.alloc (.cells #[] 3)).o0.ints
    have hs5 := K5.size
    have hg5 := heap_lt b5
    go_wp2_with (first | (at_builtin; refine app_ints elemInt rfl _ _ rfl w5.heap.size _ 0 [] rfl hown5 V0 (1 + m) d0 x rfl hx5 HL1.out (by unfold maxLen; omega) (by omega) (by simp) ?_))
    intro v' w6 ho6 hg6 _
    (try simp only [Nat.zero_add, List.nil_append] at ho6)
    have K6 := Below.grown (K5.alloc K5.size (.cells #[] 3)) hg6 (by simp; omega) (fun k e => by simp [Value.ownBlock] at e; omega)
    have b6 := heap_grown (heap_alloc b5 (.cells #[] 3)) hg6 (by simp [Value.ownBlock]; omega)
    have mg : Mid w5.heap.size (w5.heap.size + 1) (w5.alloc (.cells #[] 3)) w6 := Mid.of_grown hg6 (fun k e => by simp [Value.ownBlock] at e; omega)
    have ow6 := (ow5.alloc (.cells #[] 3)).mid mg (.inl (by omega))
    have hvs : w5.heap.size ≤ w6.heap.size := by have := hg6.size; simp at this; omega
    clear mg hg6 hx5 hown5 ow5 b5 K5 a0 c5
    obtain ⟨v0, vc, rfl, hvg, hvl⟩ := ho6.form (by omega)
    obtain ⟨s0, t0⟩ := blk (i := 0) b6 rfl
    have b7 := heap_set (i := 0) b6 (.slice (some ⟨v0, 0, none⟩) (1 + m) vc)
    have K7 := K6.setCell (p := ⟨gx, 0, none⟩) hgx (.slice (some ⟨v0, 0, none⟩) (1 + m) vc)
    have ow7 := ow6.setFar' (g := gx) (i := 0) (Nat.le_refl _) (.slice (some ⟨v0, 0, none⟩) (1 + m) vc)
    have o7 := ((OwnI.of_own ho6).setFar (g := gx) (i := 0) (by omega) (.slice (some ⟨v0, 0, none⟩) (1 + m) vc)).own
    have hv7 : v0 < (w6.setCell ⟨gx, 0, none⟩ (.slice (some ⟨v0, 0, none⟩) (1 + m) vc)).heap.size := by simp; omega
    have O7 := Lib.hid o7
    clear o7 ho6 ow6 K6 b6
    go_wp2_with fail
    generalize w6.setCell ⟨gx, 0, none⟩ (.slice (some ⟨v0, 0, none⟩) (1 + m) vc) = w7 at *
    clear s0 t0
    obtain ⟨s0, _⟩ := blk (i := 0) b7 rfl
    obtain ⟨s1, _⟩ := blk (i := 1) b7 rfl
    obtain ⟨s2, _⟩ := blk (i := 2) b7 rfl
    have hvc := O7.out.cellAt kk (by omega)
    have hvf := O7.out.frozenAt kk
    rw [show (intVals x)[kk]? = some (.int .i64 (x.getD kk 0)) by simp [intVals, List.getD_eq_getElem?_getD, List.getElem?_eq_getElem (show kk < x.length by rw [HL1.out]; exact hkl)]] at hvc
    obtain ⟨p0, p1⟩ := P1.at_ (j := kk) (by rw [HL1.out]; exact hkl)
    have hst := (O7.out.stored kk (.int .i64 (x.getD kk 0 + 1))).1
    rw [intVals_set] at hst
    have HX1 := Lib.hid (HX.out kk hkl)
    have HLX : Hid ((x.set kk (x.getD kk 0 + 1)).length = 1 + m) := by show _ = _; rw [List.length_set]; exact HL1.out
    generalize x.set kk (x.getD kk 0 + 1) = x' at hst HX1 HLX
    generalize x.getD kk 0 = xk at hvc p0 p1 hst
    have hst8 : (w7.setCell ⟨v0, kk, none⟩ (.int .i64 (xk + 1))).drew.ownsRow w5.heap.size 3 1 (.slice (some ⟨v0, 0, none⟩) (1 + m) vc) (1 + m) (intVals x') := hst
    have b8 : (w7.setCell ⟨v0, kk, none⟩ (.int .i64 (xk + 1))).drew.heap[gx]? = some (.cells #[.slice (some ⟨v0, 0, none⟩) (1 + m) vc, .slice V1 (1 + m) d1, .slice V2 (1 + m) d2] 31 (0, 0)) := heap_far b7 (by simp; omega) _
    have K8 := (K7.setCell (p := ⟨v0, kk, none⟩) (by simp; omega) (.int .i64 (xk + 1))).drew
    have ow8 := (ow7.setFar' (g := v0) (i := kk) (by omega) (.int .i64 (xk + 1))).drew
    have hk0 : (0 : Int) ≤ kk := by omega
    have hk1 : (kk : Int) < ((1 + m : Nat) : Int) := by omega
    have H8 := Lib.hid hst8
    clear hst hst8 b7 ow7 K7
    go_region
    go_wp2_with fail
    generalize (w7.setCell ⟨v0, kk, none⟩ (.int .i64 (xk + 1))).drew = w8 at *
    have hnt : ¬ tossed x' y z := fun e => by have := e.2.2.2; rw [HX1.out] at this; omega
    refine (impl_TossCoin (some ⟨v0, 0, none⟩) V1 V2 vc d1 d2 (1 + m) (1 + m) (1 + m) x' y z w8 (Ints.of_own H8.out) ow8.o1.ints ow8.o2.ints HLX.out HL6.out HLZ.out (by omega)).mono ?_
    unfold Coined
    rw [decide_eq_false hnt]
    rintro e w9 ⟨rfl, hb⟩
    have b9 := heap_below b8 hb
    have K9 := K8.trans (hb.mono K8.size)
    have o9 := own_below H8.out hb
    have ow9 := ow8.below hb
    have i9 := i1.bound.below K9
    have O9 := Lib.hid o9
    clear hb b8 K8 ow8 H8 hnt s0 s1 s2 hvc hvf o9
    obtain ⟨a0, _⟩ := blk (i := 0) b9 rfl
    obtain ⟨a1, _⟩ := blk (i := 1) b9 rfl
    obtain ⟨a2, _⟩ := blk (i := 2) b9 rfl
    generalize tossI x' y z = jj
    go_wp2_with fail
    go_loop [14, 15] (fun s i => ∃ k : Nat, k ≤ 1 + m ∧ i = .int .i64 k ∧ s = .int .i64 (coinN x k)) (fun _ i => 1 + m - (intOf i).toNat)
    case atStart => exact ⟨0, Nat.zero_le _, rfl, rfl⟩
    case round =>
      obtain ⟨k, hk, rfl, rfl⟩ := hrel
      by_cases hlt : k < 1 + m
      · obtain ⟨q0, o0, e0, _, c0⟩ := i9.at_ (j := k) (by rw [HL1.out]; exact hlt)
        injection e0 with e0; injection e0 with e00 e01
        subst e00 e01
        obtain ⟨p0', p1'⟩ := P1.at_ (j := k) (by rw [HL1.out]; exact hlt)
        have Hn := Lib.hid (xor_words (coinN_word x k) (by unfold isWord; omega) (coinN_next x k))
        generalize x.getD k 0 = vx at c0 Hn
        have hk0 : (0 : Int) ≤ k := by omega
        have hk1 : (k : Int) < ((1 + m : Nat) : Int) := by omega
        have hk2 : (k : Int) < 1 + (m : Int) := by omega
        clear i9 i1 a0 a1 a2
        go_wp2_with fail
        go_round
        case rel => exact ⟨k + 1, by omega, by go_num, by rw [Hn.out]⟩
        case measure => simp [intOf]; omega
      · obtain rfl : k = 1 + m := by omega
        rw [Hco.out]
        go_wp2_with fail
        refine (impl_TossCheat (some ⟨v0, 0, none⟩) V1 V2 vc d1 d2 (1 + m) (1 + m) (1 + m) x' y z w9 (Ints.of_own O9.out) ow9.o1.ints ow9.o2.ints HLX.out HL6.out HLZ.out (by omega)).mono ?_
        rw [HX1.out]
        rintro e w10 ⟨rfl, hb⟩
        have K10 := hb1.trans ((K9.trans (hb.mono K9.size)).mono hb1.size)
        clear hb
        go_wp2_with fail
        go_ret
        exact ⟨rfl, K10⟩
end Go.Proofs.Ytedfblgopmiheaa
