/- Simplification, the program's: finding or appending a gate, constants, negations. No condition. -/
import Derived.Test.YtkcknejkldhmaaaProg
import Derived.Test.YtkcknejkldhmaaaSmKa
import Derived.Test.YtkcknejkldhmaaaSmT
import Derived.Deep.RegionLaw
import Derived.Deep.RegionHeld3
namespace Go.Proofs.Ytkcknejkldhmaaa
open Go Go.RowKit
set_option maxRecDepth 100000 in
set_option maxHeartbeats 1000000 in
theorem impl_wireOf (B g mb n : Nat) (v : Value) (z : List Int) (k a b : Int) (w : World) (h : Sp B g mb n w v z) (hB : B ≤ w.heap.size) (hn : n ≤ 900000) (ok : gateOk k a b n) :
    Calls Try.prog 119 #[.pointer (some ⟨g, 0, none⟩), .agg #[.int .i64 k, .int .i64 a, .int .i64 b]] w (PutK B g mb n (gateG z k a b) v w) := by
  have hs := small_gate (n := n) ok (by omega)
  have hl := h.len
  have hn3 : z.length / 3 = n := by omega
  have P1 := gateG_put (bs := []) hl h.ok ok
  have t0 := (Tm.refl g mb v w).alloc (.cells #[.int .i64 k, .int .i64 a, .int .i64 b] 40)
  have b0 := heap_alloc_new w (.cells #[.int .i64 k, .int .i64 a, .int .i64 b] 40)
  have h0 := h.alloc (.cells #[.int .i64 k, .int .i64 a, .int .i64 b] 40)
  have hB0 : B ≤ (w.alloc (.cells #[.int .i64 k, .int .i64 a, .int .i64 b] 40)).heap.size := by simp; omega
  have ng : w.heap.size ≠ g := by have := h.cir.lt; omega
  have nm : w.heap.size ≠ mb := by have := h.mlt; omega
  have nv : v.ownBlock ≠ some w.heap.size := fun e => by have := (h.cir.own.lt _ e).2; omega
  clear h
  go_enter Try.func119, Try.ntmps119
  go_upto_region 1 with (fail)
  generalize hw0 : w.alloc (.cells #[.int .i64 k, .int .i64 a, .int .i64 b] 40) = w0 at *
  clear hw0
  have hd := h0.drew
  have lk := hd.look hs (by omega)
  have c2 := h0.known
  obtain ⟨d0, _⟩ := blk (i := 0) b0 rfl
  obtain ⟨d1, _⟩ := blk (i := 1) b0 rfl
  obtain ⟨d2, _⟩ := blk (i := 2) b0 rfl
  have e2 : w0.drew.cell? ⟨g, 2, none⟩ = some (.map (some mb)) := c2
  have f0 : w0.drew.cell? ⟨w.heap.size, 0, none⟩ = some (.int .i64 k) := d0
  have f1 : w0.drew.cell? ⟨w.heap.size, 1, none⟩ = some (.int .i64 a) := d1
  have f2 : w0.drew.cell? ⟨w.heap.size, 2, none⟩ = some (.int .i64 b) := d2
  by_cases hf : findG z k a b n < n
  · rw [if_pos hf, decide_eq_true hf] at lk
    have E : Hid (gateG z k a b = (z, ((findG z k a b n : Nat) : Int))) := by
      unfold gateG
      rw [hn3, if_pos hf]
      exact Lib.hid rfl
    generalize ((findG z k a b n : Nat) : Int) = x at *
    have H := Lib.hid hd
    have T := Lib.hid t0.drew
    clear hd t0 h0 P1 hf c2 d0 d1 d2
    go_region
    all_goals
      go_wp2_with fail
      go_ret
      exact ⟨_, n, ret_int (by rw [E.out]), Nat.le_refl _, by omega, by rw [E.out]; exact H.out, T.out⟩
  · rw [if_neg hf, decide_eq_false hf] at lk
    have EG : gateG z k a b = (putG z k a b, nG z) := by
      unfold gateG
      rw [hn3, if_neg hf]
    have E := Lib.hid EG
    rw [EG] at P1
    have hpl : (putG z k a b).length = (n + 1) * 3 := putG_length k a b hl
    obtain ⟨n', p1, p2, p3, p4, _, _, p7⟩ := P1.ex
    obtain rfl : n' = n + 1 := by have := p3.len; simp only at this; omega
    have PP := Lib.hid (And.intro p4 (p7 hd.one))
    have T := Lib.hid t0.drew
    have H := Lib.hid hd
    have hn2 := nG_is hl
    clear P1 p1 p2 p3 p4 p7 t0 h0 EG hf c2 d0 d1 d2 hn3 hd
    go_region
    generalize hwa : w0.drew = wa at *
    have hBa : B ≤ wa.heap.size := by rw [← hwa]; exact hB0
    clear hwa hB0 lk e2
    have cP := impl_appendGate B g n v ⟨[.slice none 0 0, .map (some mb)], 76⟩ z k a b wa.drew H.out.cir.drew hBa (by omega)
    rw [hn2] at cP
    have g0 : wa.drew.cell? ⟨w.heap.size, 0, none⟩ = some (.int .i64 k) := f0
    have g1 : wa.drew.cell? ⟨w.heap.size, 1, none⟩ = some (.int .i64 a) := f1
    have g2 : wa.drew.cell? ⟨w.heap.size, 2, none⟩ = some (.int .i64 b) := f2
    go_wp2_with fail
    go_region_held3 (fun w' => w'.cell? ⟨w.heap.size, 0, none⟩ = some (.int .i64 k) ∧ w'.cell? ⟨w.heap.size, 1, none⟩ = some (.int .i64 a) ∧ w'.cell? ⟨w.heap.size, 2, none⟩ = some (.int .i64 b)) (first | exact ⟨g0, g1, g2⟩ | exact ⟨y0, y1, y2⟩) (first
      | (go_at_call 72; (with_reducible refine cP.mono ?_); rintro e w2 ⟨v', rfl, h2, t2⟩; (have y0 := t2.cell g0 ng nv); (have y1 := t2.cell g1 ng nv); (have y2 := t2.cell g2 ng nv)))
    have hm2 := (H.out.drew).turned t2
    have gm : g ≠ mb := H.out.gne
    have vm : v'.ownBlock ≠ some mb := fun e => by
      rcases t2.at_ mb e with e1 | e1
      · exact H.out.vne e1
      · have := H.out.mlt
        simp at e1
        omega
    obtain ⟨w3, hr, hm3, hg3⟩ := (show w2.drew.ownsMap Try.prog 40 (plainElem Try.prog 3) mb n (knD z n) from hm2).update keyG Try.underlying74 (by unfold maxLen; omega) (key_gate hs) (plainElem_int Try.underlying3 (show (Lit.int .i64 (n : Int)).wf = true from WalkArith.wf_i64 (by omega)))
    rw [← knD_put hl] at hm3
    have c5 : w2.drew.cell? ⟨g, 2, none⟩ = some (.map (some mb)) := (blk (i := 2) h2.box rfl).1
    have x0 : w2.drew.cell? ⟨w.heap.size, 0, none⟩ = some (.int .i64 k) := y0
    have x1 : w2.drew.cell? ⟨w.heap.size, 1, none⟩ = some (.int .i64 a) := y1
    have x2 : w2.drew.cell? ⟨w.heap.size, 2, none⟩ = some (.int .i64 b) := y2
    have S := Lib.hid (show Sp B g mb (n + 1) w3 v' (putG z k a b) from ⟨h2.drew.store hg3 gm vm, hm3, H.out.ge, H.out.mge, PP.out.1, PP.out.2⟩)
    have TT := Lib.hid ((T.out.trans (Tm.of_turn t2 mb).ofDrew).drew.store hg3)
    clear hm2 hm3 hg3 h2 t2 cP y0 y1 y2 g0 g1 g2 f0 f1 f2
    go_wp2_with fail
    go_region
    all_goals
      go_wp2_with fail
      go_ret
      exact ⟨_, n + 1, ret_int (by rw [E.out]; exact hn2.symm), by omega, Nat.le_refl _, by rw [E.out]; exact S.out, TT.out⟩
theorem impl_sconstant (B g mb n : Nat) (v : Value) (z : List Int) (bit : Int) (hb : isBit bit) (w : World) (h : Sp B g mb n w v z) (hB : B ≤ w.heap.size) (hn : n ≤ 900000) :
    Calls Try.prog 148 #[.pointer (some ⟨g, 0, none⟩), .int .i64 bit] w (PutK B g mb n (ordG z 2 bit 0) v w) := by
  have cW := impl_wireOf B g mb n v z 2 bit 0 w h hB hn (.inr (.inl ⟨rfl, hb, rfl⟩))
  rw [← show ordG z 2 bit 0 = gateG z 2 bit 0 by unfold ordG; rw [if_neg (by omega)]] at cW
  go_enter Try.func148, Try.ntmps148
  go_wp2_with fail
  refine cW.mono ?_
  rintro e w1 ⟨v', n', rfl, h1, h2, h3, h4⟩
  have H := Lib.hid h3
  have T := Lib.hid h4
  clear h3 h4 cW h
  go_wp2_with fail
  go_ret
  exact ⟨v', n', rfl, h1, h2, H.out, T.out⟩
theorem impl_isConstant (B g mb n : Nat) (v : Value) (z : List Int) (i : Nat) (w : World) (h : Sp B g mb n w v z) (hi : i < n) :
    Calls Try.prog 150 #[.pointer (some ⟨g, 0, none⟩), .int .i64 (i : Int)] w fun e w' => e = .returned (.bool (gk z i == 2)) ∧ w' = w := by
  obtain ⟨q, c, rfl, c0, -, -⟩ := h.cir.gate hi
  have g0 := h.gates
  have i0 : (0 : Int) ≤ i := by omega
  have i1 : (i : Int) < n := by omega
  generalize gk z i = k at *
  clear h
  go_enter Try.func150, Try.ntmps150
  go_wp2_with fail
  go_ret
  exact ⟨rfl, rfl⟩
set_option maxRecDepth 100000 in
set_option maxHeartbeats 1000000 in
theorem impl_negation (B g mb n : Nat) (v : Value) (z : List Int) (i : Nat) (hi : i < n) (w : World) (h : Sp B g mb n w v z) (hB : B ≤ w.heap.size) (hn : n ≤ 900000) :
    Calls Try.prog 118 #[.pointer (some ⟨g, 0, none⟩), .int .i64 (i : Int)] w (PutK B g mb n (notG z i) v w) := by
  have ok := h.ok i hi
  have al := below_alloc w (.cells #[.int .i64 (gk z i), .int .i64 (ga z i), .int .i64 (gb z i)] 40)
  have b0 := heap_alloc_new w (.cells #[.int .i64 (gk z i), .int .i64 (ga z i), .int .i64 (gb z i)] 40)
  have h0 := h.below al
  have t0 := (Tm.refl g mb v w).below al
  have hB0 : B ≤ (w.alloc (.cells #[.int .i64 (gk z i), .int .i64 (ga z i), .int .i64 (gb z i)] 40)).heap.size := by simp; omega
  obtain ⟨q, c, hv, c0, c1, c2⟩ := h.cir.gate hi
  have g0 := h.gates
  have i0 : (0 : Int) ≤ i := by omega
  have i1 : (i : Int) < n := by omega
  have E : Hid (notG z i = if gk z i = 2 then ordG z 2 (1 - ga z i) 0 else if gk z i = 5 then (z, ga z i) else ordG z 5 i 0) := by
    unfold notG
    rw [Int.toNat_natCast]
    exact Lib.hid rfl
  generalize gk z i = k at *
  generalize ga z i = a at *
  generalize gb z i = b at *
  have H := Lib.hid h0
  have T := Lib.hid t0
  have V := Lib.hid hv
  rw [hv] at g0
  clear h h0 t0 al hv
  by_cases h2 : k = 2
  · have hbit : isBit (1 - a) := by unfold gateOk at ok; unfold isBit; omega
    have a01 : 0 ≤ a ∧ a ≤ 1 := by unfold gateOk at ok; omega
    have cC := impl_sconstant B g mb n v z (1 - a) hbit _ H.out hB0 hn
    have E2 := Lib.hid (E.out.trans (if_pos h2))
    subst h2
    clear E ok
    obtain ⟨a0, a1⟩ := a01
    go_enter Try.func118, Try.ntmps118
    go_wp2_with fail
    refine cC.mono ?_
    rintro e w1 ⟨v', n', rfl, h1, h2, h3, h4⟩
    have H3 := Lib.hid h3
    have T3 := Lib.hid (T.out.trans h4)
    clear h3 h4 cC
    go_wp2_with fail
    go_ret
    exact ⟨v', n', ret_int (by rw [E2.out]), h1, h2, by rw [E2.out]; exact H3.out, T3.out⟩
  · by_cases h5 : k = 5
    · have E2 := Lib.hid (E.out.trans ((if_neg h2).trans (if_pos h5)))
      subst h5
      clear E ok
      go_enter Try.func118, Try.ntmps118
      go_wp2_with fail
      go_ret
      exact ⟨v, n, ret_int (by rw [E2.out]), Nat.le_refl _, by omega, by rw [E2.out]; exact H.out, T.out⟩
    · have E2 := Lib.hid (E.out.trans ((if_neg h2).trans (if_neg h5)))
      have e2 : (k == 2) = false := beq_eq_false_iff_ne.2 h2
      have e5 : (k == 5) = false := beq_eq_false_iff_ne.2 h5
      have cW := impl_wireOf B g mb n v z 5 i 0 _ H.out hB0 hn (.inr (.inr (.inr ⟨rfl, ⟨by omega, by omega⟩, rfl⟩)))
      rw [← show ordG z 5 i 0 = gateG z 5 i 0 by unfold ordG; rw [if_neg (by omega)]] at cW
      clear E ok h2 h5
      go_enter Try.func118, Try.ntmps118
      go_wp2_with fail
      refine cW.mono ?_
      rintro e w1 ⟨v', n', rfl, h1, h2, h3, h4⟩
      have H3 := Lib.hid h3
      have T3 := Lib.hid (T.out.trans h4)
      clear h3 h4 cW
      go_wp2_with fail
      go_ret
      exact ⟨v', n', ret_int (by rw [E2.out]), h1, h2, by rw [E2.out]; exact H3.out, T3.out⟩
end Go.Proofs.Ytkcknejkldhmaaa
