/- Compilation: the model's circuit and table of registers, gates for each bit. No condition. -/
import Derived.Test.YtklekabjhehopaaProg
import Derived.Test.YtklekabjhehopaaCmT
import Derived.Test.YtklekabjhehopaaCmB
import Derived.Test.YtklekabjhehopaaW3
import Derived.Test.YtklekabjhehopaaCD
import Derived.Test.YtklekabjhehopaaCmA
namespace Go.Proofs.Ytklekabjhehopaa
open Go Go.RowKit
/-- The model's compilation: the circuit in its box, the table of registers in block b. -/
structure Cs (B g b c : Nat) (w : World) (v u : Value) (vs : List Value) (n m : Nat) (z os : List Int) (rg : List (List Int)) : Prop where
  cir : Cir B g w v ⟨[u], 31⟩ n z
  outs : Wl g v B w u m os
  onb : u.ownBlock ≠ some b
  own : w.ownsRow B 29 1 (.slice (some ⟨b, 0, none⟩) 8 c) 8 vs
  ne : b ≠ g
  nv : v.ownBlock ≠ some b
  low : B ≤ g
  tab : Tb g b v u w vs rg
section
variable {B g b c n n' m k i j : Nat} {w w1 w2 : World} {v v' u u' x : Value} {us z z' os : List Int} {vs : List Value} {rg : List (List Int)} {A : Option Addr}
theorem Cs.blt (h : Cs B g b c w v u vs n m z os rg) : B ≤ b ∧ b < w.heap.size := h.own.lt b rfl
theorem Cs.next (h : Cs B g b c w v u vs n m z os rg) (hc : Cir B g w1 v' ⟨[u], 31⟩ n' z') (t : Turn g v w v' w1) : Cs B g b c w1 v' u vs n' m z' os rg := by
  have hb := h.blt
  refine ⟨hc, h.outs.turn t, h.onb, ⟨h.own.1, ?_⟩, h.ne, fun e => ?_, h.low, h.tab.tn (Tn.of_turn t b u)⟩
  · rcases h.own.2 with e | ⟨q, cap, cur, e, hq, hh, r⟩
    · exact .inl e
    · have eq : q = b := by injection e with e; injection e with e; injection e with e; exact e.symm
      subst eq
      exact .inr ⟨q, cap, cur, e, hq, (t.block q hb.2 h.ne h.nv).trans hh, r⟩
  · rcases t.at_ b e with e1 | e1
    · exact h.nv e1
    · omega
theorem Cs.below (h : Cs B g b c w v u vs n m z os rg) (hb : Below w.heap.size w w1) : Cs B g b c w1 v u vs n m z os rg := h.next (h.cir.below hb) ((Turn.refl _ _ _).below hb)
theorem Cs.alloc (h : Cs B g b c w v u vs n m z os rg) (o : Obj) : Cs B g b c (w.alloc o) v u vs n m z os rg := h.below (below_alloc w o)
theorem Cs.drew (h : Cs B g b c w v u vs n m z os rg) : Cs B g b c w.drew v u vs n m z os rg := h.next h.cir.drew ((Turn.refl _ _ _).drew)
theorem Cs.vlt (h : Cs B g b c w v u vs n m z os rg) : ∀ k, v.ownBlock = some k → B ≤ k := fun k e => (h.cir.own.lt k e).1
theorem Cs.ult (h : Cs B g b c w v u vs n m z os rg) : ∀ k, u.ownBlock = some k → B ≤ k := fun k e => (h.outs.own.lt k e).1
theorem Cs.lows (h : Cs B g b c w v u vs n m z os rg) (t : Tn g b v u w v' u' w1) (hB : B ≤ w.heap.size) : Below B w w1 := t.low h.low h.blt.1 h.vlt h.ult hB
theorem Cs.cell (h : Cs B g b c w v u vs n m z os rg) (hj : j < 8) (e : vs.getD j undef = x) : w.cell? ⟨b, j, none⟩ = some x ∧ w.frozen? ⟨b, j, none⟩ = false := by
  have hv := h.tab.vlen
  refine ⟨?_, h.own.frozenAt j⟩
  rw [h.own.cellAt j (by omega), ← e, List.getD_eq_getElem?_getD, List.getElem?_eq_getElem (by omega)]
  rfl
theorem Cs.one (h : Cs B g b c w v u vs n m z os rg) : w.cell? ⟨g, 1, none⟩ = some u ∧ w.frozen? ⟨g, 1, none⟩ = false := blk (i := 1) h.cir.box rfl
/-- A register's word is set. -/
theorem Cs.set (h : Cs B g b c w v u vs n m z os rg) (hj : j < 8) {d : Nat} (hd : 4 ≤ d) (hl : us.length = 4) (hr : Rw g b v u w A us) :
    Cs B g b c (w.setCell ⟨b, j, none⟩ (.slice A 4 d)) v u (vs.set j (.slice A 4 d)) n m z os (rg.set j us) := by
  have t := Tn.set g b v u w j (.slice A 4 d)
  have hg := (h.own.stored j (.slice A 4 d)).2
  exact ⟨h.cir.grown (u := .slice (some ⟨b, 0, none⟩) 8 c) hg (fun e => h.ne (by injection e)) (fun q e e' => h.nv (by rw [e', ← e]; rfl)), ⟨h.outs.own.kept hg (.inr h.onb), h.outs.ne, h.outs.ap⟩, h.onb, (h.own.stored j _).1, h.ne, h.nv, h.low, (h.tab.set hj hd hl hr).tn t⟩
/-- The outputs grow. -/
theorem Cs.app (h : Cs B g b c w v u vs n m z os rg) (ho : w1.ownsRow B 3 1 u' (m + k) (intVals os ++ intVals us)) (hg : w.grownBy w1 u.ownBlock) (hat : u'.ownBlock = u.ownBlock ∨ u'.ownBlock = some w.heap.size) :
    Cs B g b c (w1.setCell ⟨g, 1, none⟩ u') v u' vs n (m + k) z (os ++ us) rg := by
  have hgl := h.cir.lt
  have hbl := h.blt
  have hne : u'.ownBlock ≠ some g := fun e => by
    rcases hat with e1 | e1
    · exact h.outs.ne (e1 ▸ e)
    · rw [e1] at e
      injection e with e
      omega
  have hnb : u'.ownBlock ≠ some b := fun e => by
    rcases hat with e1 | e1
    · exact h.onb (e1 ▸ e)
    · rw [e1] at e
      injection e with e
      omega
  have hap : apart u' v := fun q e e' => by
    rcases hat with e1 | e1
    · exact h.outs.ap q (e1 ▸ e) e'
    · rw [e1] at e
      injection e with e
      have := (h.cir.own.lt q e').2
      omega
  have hx := (h.own.kept hg (.inr (fun e => h.onb e.symm))).kept (grown_box w1 g 1 u') (.inr (fun e => h.ne (by injection e)))
  refine ⟨(h.cir.grown hg h.outs.ne h.outs.ap).rest 0 u', Wl.rest (⟨by rw [show intVals (os ++ us) = intVals os ++ intVals us by simp [intVals]]; exact ho, hne, hap⟩ : Wl g v B w1 u' (m + k) (os ++ us)) u', hnb, hx, h.ne, h.nv, h.low, h.tab.tn (Tn.app hg (fun q e => ?_) 1 u')⟩
  rcases hat with e1 | e1
  · exact .inl (e1 ▸ e)
  · rw [e1] at e
    injection e with e
    exact .inr (by omega)
theorem Cs.app_low (h : Cs B g b c w v u vs n m z os rg) (hg : w.grownBy w1 u.ownBlock) (hB : B ≤ w.heap.size) : Below B w (w1.setCell ⟨g, 1, none⟩ u') :=
  ((Below.refl B w).grown hg hB h.ult).setCell (p := ⟨g, 1, none⟩) h.low u'
end
set_option maxRecDepth 100000 in
set_option maxHeartbeats 2000000 in
theorem spec_l15Bits (B g n : Nat) (v : Value) (v1 : Rest) (z : List Int) (q : Int) (A : Option Addr) (c : Nat) (us : List Int) (A' : Option Addr) (c' : Nat) (ws : List Int) (w : World) (h : Cir B g w v v1 n z) (hB : B ≤ w.heap.size) (ho : Off g v w A us) (lu : us.length = 4) (ho' : Off g v w A' ws) (lw : ws.length = 4) (hn : n ≤ 970000) :
    Calls Try.prog 98 #[.pointer (some ⟨g, 0, none⟩), .int .i64 q, .slice A 4 c, .slice A' 4 c'] w (PutL B g v1 (n + 4) (bitsAt z q us ws 4).1 (bitsAt z q us ws 4).2 v w) := by
  go_enter Try.func98, Try.ntmps98
  have s0 := Bl.empty h
  go_wp2_with fail
  generalize hw3 : w.alloc (.cells #[] 3) = w3 at *
  clear hw3
  have S0 := Lib.hid s0
  have LU := Lib.hid lu
  have LW := Lib.hid lw
  clear s0 h lw lu
  go_loopw [9, 10] (fun u i wr => ∃ (k : Nat) (v' : Value), k ≤ 4 ∧ i = .int .i64 k ∧ Bl B g v w wr v' v1 (n + k) (bitsAt z q us ws k).1 u k (bitsAt z q us ws k).2) (fun _ i _ => 4 - (intOf i).toNat)
  case atStart => exact ⟨0, v, by omega, rfl, S0.out⟩
  case round =>
    obtain ⟨k, v', hk, rfl, hs⟩ := hrel
    clear S0
    by_cases hlt : k < 4
    · have k0 : (0 : Int) ≤ k := by omega
      have k1 : (k : Int) < 4 := by omega
      obtain ⟨b, o, rfl, q0⟩ := (ho.turn hs.turn).at_ (j := k) (by rw [LU.out]; exact hlt)
      obtain ⟨b', o', rfl, q1⟩ := (ho'.turn hs.turn).at_ (j := k) (by rw [LW.out]; omega)
      have B1 := Nat.le_trans hB hs.size
      obtain ⟨A4, c4, rfl⟩ := hs.wl.form
      have hsd := hs.drew
      have B2 : B ≤ wr.drew.heap.size := B1
      have HN := Lib.hid (show bitsAt z q us ws (k + 1) = (putG (bitsAt z q us ws k).1 q (us.getD k 0) (ws.getD k 0), (bitsAt z q us ws k).2 ++ [nG (bitsAt z q us ws k).1]) from rfl)
      generalize us.getD k 0 = ux at *
      generalize ws.getD k 0 = wx at *
      generalize bitsAt z q us ws k = R at *
      have c5 := spec_l14Put B g (n + k) v' v1 R.1 q ux wx
      clear ho ho' hs
      go_upto_region 5 with (fail)
      go_region_law (first
        | (refine app_step (e' := 3) elemInt (by rfl) _ _ (by rfl) w.heap.size (.slice A4 k c4) k (intVals R.2) (by rfl) (hs5.alloc (.cells #[.int .i64 (nG R.1)] 3)).wl.own w5.heap.size 1 1 _ (0, 0) (by rfl) (heap_alloc_new w5 _) (by rfl) (oneCell_i64 [_]) (by omega) (by unfold maxLen; omega) (by omega) (by simp; omega) (w5.heap.size + 1) (by simp) ?_; intro g8 e8 w8 ho8 hg8 hat8 hl8)
        | (go_simp; go_at_call 94; (with_reducible refine (c5 _ hsd.cir B2 (by omega)).mono ?_); rintro e w5 ⟨v5, rfl, h5, t5⟩; (have hs5 := hsd.next h5 t5); (have sz5 := hs5.size)))
      all_goals
        have H := Lib.hid (hs5.app ho8 hg8 hat8)
        clear h5 t5 hs5 hsd ho8 hg8 hat8 hl8 c5 q0 q1
        go_wp2_with fail
        go_roundw
        case rel => exact ⟨k + 1, v5, by omega, by go_num, by rw [HN.out]; exact H.out⟩
        case measure => simp [intOf]; omega
    · obtain rfl : k = 4 := by omega
      obtain ⟨A, c, rfl⟩ := hs.wl.form
      have H := Lib.hid hs
      clear hs
      go_wp2_with fail
      go_ret
      exact ⟨v', A, 4, c, rfl, H.out.wl.len, H.out.cir, H.out.turn, H.out.wl⟩
end Go.Proofs.Ytklekabjhehopaa
