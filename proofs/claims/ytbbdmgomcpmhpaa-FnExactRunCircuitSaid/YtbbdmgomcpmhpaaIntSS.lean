/- Slices of slices of ints: reading, counting (laws.szIntSS), copying (laws.toIntSS), comparing (laws.eqIntSS), marking (laws.markIntSS). No condition. -/
import Derived.Test.YtbbdmgomcpmhpaaProg
import Derived.Test.YtbbdmgomcpmhpaaB1
import Derived.Deep.Matrix
namespace Go.Proofs.Ytbbdmgomcpmhpaa
open Go Go.RowKit
/-- How many numbers there are in all. -/
def tot (rs : List (List Int)) : Nat := match rs with
  | [] => 0
  | r :: rs => r.length + tot rs
theorem tot_drop {rs : List (List Int)} {k : Nat} (hk : k < rs.length) : tot (rs.drop k) = (rs.getD k []).length + tot (rs.drop (k + 1)) := by
  rw [List.drop_eq_getElem_cons hk, List.getD_eq_getElem?_getD, List.getElem?_eq_getElem hk]
  rfl
theorem tot_end (rs : List (List Int)) : tot (rs.drop rs.length) = 0 := by rw [List.drop_length]; rfl
theorem tot_at {rs : List (List Int)} {k : Nat} (hk : k < rs.length) : (rs.getD k []).length ≤ tot rs := by
  induction rs generalizing k with
  | nil => simp at hk
  | cons r rs ih =>
    cases k with
    | zero => simp [tot]
    | succ k =>
      have := ih (k := k) (by simpa using hk)
      simp only [tot, List.getD_cons_succ]
      omega
/-- A slice reads as these rows; all of it lies below block B. -/
def Rows (B : Nat) (w : World) (A : Option Addr) (rs : List (List Int)) : Prop :=
  0 < rs.length → ∃ b o, A = some ⟨b, o, none⟩ ∧ b < B ∧ ∀ j, j < rs.length → ∃ (Aj : Option Addr) (c : Nat), w.cell? ⟨b, o + j, none⟩ = some (.slice Aj (rs.getD j []).length c) ∧ IntsB B w Aj (rs.getD j [])
section
variable {B B' : Nat} {w w' : World} {A : Option Addr} {rs : List (List Int)} {j : Nat}
theorem Rows.nil (B : Nat) (w : World) (A : Option Addr) : Rows B w A [] := fun h => absurd h (by simp)
theorem Rows.below (h : Rows B w A rs) (hb : Below B w w') : Rows B w' A rs := fun h0 => by
  obtain ⟨b, o, e, hl, hc⟩ := h h0
  refine ⟨b, o, e, hl, fun j hj => ?_⟩
  obtain ⟨Aj, c, h1, h2⟩ := hc j hj
  exact ⟨Aj, c, (hb.cell (p := ⟨b, o + j, none⟩) hl).trans h1, h2.below hb⟩
theorem Rows.more (h : Rows B w A rs) (hB : B ≤ B') : Rows B' w A rs := fun h0 => by
  obtain ⟨b, o, e, hl, hc⟩ := h h0
  refine ⟨b, o, e, by omega, fun j hj => ?_⟩
  obtain ⟨Aj, c, h1, h2⟩ := hc j hj
  exact ⟨Aj, c, h1, h2.more hB⟩
theorem Rows.up (h : Rows B w A rs) (hb : Below B w w') (hs : B ≤ w'.heap.size) : Rows w'.heap.size w' A rs := (h.below hb).more hs
theorem Rows.next (h : Rows w.heap.size w A rs) (hb : Below w.heap.size w w') : Rows w'.heap.size w' A rs := h.up hb hb.size
theorem Rows.drew (h : Rows B w A rs) : Rows B w.drew A rs := h
theorem Rows.drewN (h : Rows B w A rs) (k : Nat) : Rows B (w.drewN k) A rs := h
theorem Rows.at_ (h : Rows B w A rs) (hj : j < rs.length) : ∃ b o Aj c, A = some ⟨b, o, none⟩ ∧ b < B ∧ w.cell? ⟨b, o + j, none⟩ = some (.slice Aj (rs.getD j []).length c) ∧ IntsB B w Aj (rs.getD j []) := by
  obtain ⟨b, o, e, hl, hc⟩ := h (by omega)
  obtain ⟨Aj, c, h1, h2⟩ := hc j hj
  exact ⟨b, o, Aj, c, e, hl, h1, h2⟩
theorem Rows.mid {lo hi : Nat} (h : Rows B w A rs) (m : Mid lo hi w w') (hB : B ≤ lo) (hs : B ≤ w.heap.size) : Rows B w' A rs := h.below (m.low hB hs)
end
/-- A slice of slices of ints of the call's own: the outer one at v with the elements us, each row in a block of its own, all from block lo on and below hi. -/
structure OwnSS (lo hi : Nat) (w : World) (v : Value) (n : Nat) (us : List Value) (rs : List (List Int)) : Prop where
  own : ∃ e, w.ownsRow lo e 1 v n us
  top : ∀ k, v.ownBlock = some k → k < hi
  len : rs.length = n
  row : ∀ j, j < n → OwnA 1 lo hi w (us.getD j undef) (rs.getD j []).length (rs.getD j [])
  out : ∀ j, j < n → apart v (us.getD j undef)
  ap : ∀ i j, i < j → j < n → apart (us.getD i undef) (us.getD j undef)
section
variable {w w' w1 w2 : World} {lo hi lo' hi' B n k : Nat} {u v : Value} {us : List Value} {rs : List (List Int)}
theorem OwnSS.form (h : OwnSS lo hi w v n us rs) : ∃ (A : Option Addr) (c : Nat), v = .slice A n c := by
  obtain ⟨e, h⟩ := h.own
  obtain ⟨A, m, c, e, rfl⟩ := ownsRow_slice h
  exact ⟨A, c, e⟩
theorem OwnSS.ulen (h : OwnSS lo hi w v n us rs) : us.length = n := by obtain ⟨e, h⟩ := h.own; have := h.1; omega
theorem OwnSS.mid (h : OwnSS lo hi w v n us rs) (k : Mid lo' hi' w w1) (hd : hi ≤ lo' ∨ hi' ≤ lo) : OwnSS lo hi w1 v n us rs := by
  obtain ⟨⟨e, ho⟩, ht, hl, hr, hou, hap⟩ := h
  refine ⟨⟨e, ho.1, ?_⟩, ht, hl, fun j hj => (hr j hj).mid k hd, hou, hap⟩
  rcases ho.2 with e | ⟨g, cap, cur, e, hg, hh, r⟩
  · exact .inl e
  · exact .inr ⟨g, cap, cur, e, hg, k.heap hh (by have := ht g (by rw [e]; rfl); omega), r⟩
theorem OwnSS.below (h : OwnSS lo hi w v n us rs) (hb : Below w.heap.size w w1) : OwnSS lo hi w1 v n us rs := by
  obtain ⟨⟨e, ho⟩, ht, hl, hr, hou, hap⟩ := h
  exact ⟨⟨e, own_below ho hb⟩, ht, hl, fun j hj => (hr j hj).below hb, hou, hap⟩
theorem OwnSS.drew (h : OwnSS lo hi w v n us rs) : OwnSS lo hi w.drew v n us rs := ⟨h.own, h.top, h.len, fun j hj => (h.row j hj).drew, h.out, h.ap⟩
theorem OwnSS.wide (h : OwnSS lo hi w v n us rs) (h1 : lo' ≤ lo) (h2 : hi ≤ hi') : OwnSS lo' hi' w v n us rs := by
  obtain ⟨⟨e, ho⟩, ht, hl, hr, hou, hap⟩ := h
  exact ⟨⟨e, own_mono ho h1⟩, fun k e => Nat.lt_of_lt_of_le (ht k e) h2, hl, fun j hj => (hr j hj).wide h1 h2, hou, hap⟩
theorem OwnSS.setFar {g i : Nat} (h : OwnSS lo hi w v n us rs) (hg : g < lo) (u : Value) : OwnSS lo hi (w.setCell ⟨g, i, none⟩ u) v n us rs := by
  obtain ⟨⟨e, ho⟩, ht, hl, hr, hou, hap⟩ := h
  exact ⟨⟨e, ownsRow_setCell_below ho (a := ⟨g, i, none⟩) hg u⟩, ht, hl, fun j hj => (hr j hj).setFar hg u, hou, hap⟩
theorem OwnSS.rows {A : Option Addr} {c : Nat} (h : OwnSS lo hi w (.slice A n c) n us rs) : Rows hi w A rs := fun h0 => by
  have hl := h.len
  have hul := h.ulen
  obtain ⟨e, ho⟩ := h.own
  rcases ho.2 with ⟨he, h1⟩ | ⟨g, cap, cur, he, hg, hh, _⟩
  · omega
  · injection he with he1 he2 he3
    subst he1 he3
    refine ⟨g, 0, rfl, h.top g rfl, fun j hj => ?_⟩
    have hr := h.row j (by omega)
    obtain ⟨Aj, cj, e1⟩ := hr.form
    rw [e1] at hr
    refine ⟨Aj, cj, ?_, hr.intsB⟩
    rw [Nat.zero_add, ho.cellAt j (by omega), ← e1, List.getD_eq_getElem?_getD, List.getElem?_eq_getElem (by omega)]
    rfl
end
section
variable {W w w' w1 : World} {A : Option Addr} {rs : List (List Int)} {B lo hi n : Nat} {v : Value} {us : List Value}
theorem Rows.ints (h : Rows B w A rs) (hB : B ≤ w.heap.size) : Rows w.heap.size w A rs := h.more hB
theorem Rows.al (h : Rows w.heap.size w A rs) (o : Obj) : Rows (w.alloc o).heap.size (w.alloc o) A rs := h.next (below_alloc w o)
theorem rows_on (h : Rows w1.heap.size W A rs) (low : Below w1.heap.size w1 W) (hL : Below W.heap.size W w) : Rows w.heap.size w A rs := (h.below (hL.mono low.size)).more (Nat.le_trans low.size hL.size)
theorem rows_drew (h : Rows w1.heap.size W A rs) (low : Below w1.heap.size w1 W) : Rows W.drew.heap.size W.drew A rs := h.more low.size
theorem rows_to (h : Rows W.heap.size W A rs) (hL : Below W.heap.size W w) : Rows w.heap.size w A rs := h.next hL
theorem OwnSS.alloc (h : OwnSS lo hi w v n us rs) (o : Obj) : OwnSS lo hi (w.alloc o) v n us rs := h.below (below_alloc w o)
theorem OwnSS.ints {c : Nat} (h : OwnSS lo hi w (.slice A n c) n us rs) : Rows w.heap.size w A rs := fun h0 => by
  have hl := h.len
  obtain ⟨e, ho⟩ := h.own
  obtain ⟨g, e1, _, hg⟩ := own_addr ho (by omega)
  obtain ⟨b, o, e2, hb, hc⟩ := h.rows h0
  refine ⟨b, o, e2, by rw [e1] at e2; injection e2 with e2; injection e2 with e3 e4; omega, fun j hj => ?_⟩
  obtain ⟨Aj, cj, h1, _⟩ := hc j hj
  have hr := h.row j (by omega)
  obtain ⟨Aj', cj', e5⟩ := hr.form
  refine ⟨Aj, cj, h1, ?_⟩
  have hul := h.ulen
  have hcell : w.cell? ⟨b, o + j, none⟩ = some (us.getD j undef) := by
    rw [e1] at e2
    injection e2 with e2; injection e2 with e3 e4
    subst e3 e4 e1
    rw [Nat.zero_add, ho.cellAt j (by omega), List.getD_eq_getElem?_getD, List.getElem?_eq_getElem (by omega)]; rfl
  rw [hcell, e5] at h1
  injection h1 with h1
  injection h1 with h1 h2 h3
  subst h1 h3
  rw [e5] at hr
  exact hr.ints.bound
end
theorem szRes_sub {z m t : Nat} (h : m ≤ z) : szRes z (m + t) = szRes (z - m) t := by
  unfold szRes
  by_cases h2 : t ≤ z - m
  · rw [if_pos h2, if_pos (by omega)]; omega
  · rw [if_neg h2, if_neg (by omega)]
set_option maxRecDepth 100000 in
theorem szIntSS_any (left : Nat) (A : Option Addr) (n c : Nat) (rs : List (List Int)) (w : World) (hr : Rows w.heap.size w A rs) (hl : rs.length = n) (hleft : left ≤ 1048576) (hn : n ≤ 9223372036854775807) (hrow : ∀ r ∈ rs, r.length ≤ 9223372036854775807) :
    Calls Try.prog 15 #[.slice A n c, .int .i64 (left : Int)] w fun e w' => e = .returned (.int .i64 (szRes left (n + tot rs))) ∧ w = w' := by
  by_cases h : n ≤ left
  case neg =>
    have e : szRes left (n + tot rs) = -1 := by rw [szRes, if_neg (by omega)]
    rw [e]
    clear e
    go_enter Try.func15, Try.ntmps15
    go_wp2_with fail
    go_ret
    exact ⟨rfl, rfl⟩
  have Hl := Lib.hid hl
  have Hrow := Lib.hid hrow
  obtain ⟨q, hq⟩ : ∃ q, q = left - n := ⟨_, rfl⟩
  have hq2 : (left : Int) - (n : Int) = (q : Int) := by omega
  have hq3 : q + n = left := by omega
  have hqs : (q : Int) ≤ 1048576 := by omega
  have Hfin : Hid (szRes left (n + tot rs) = szRes q (tot (rs.drop 0))) := Lib.hid (by rw [List.drop_zero, szRes_sub h, hq])
  clear hl hrow hq
  go_enter Try.func15, Try.ntmps15
  go_wp2_with fail
  clear hq2
  go_loop [1, 5] (fun l i => ∃ k z : Nat, k ≤ n ∧ i = .int .i64 k ∧ l = .int .i64 (z : Int) ∧ z ≤ 1048576 ∧ Hid (szRes left (n + tot rs) = szRes z (tot (rs.drop k)))) (fun _ i => n - (intOf i).toNat)
  case atStart => exact ⟨0, q, Nat.zero_le _, rfl, rfl, by omega, Hfin⟩
  case round =>
    obtain ⟨k, z, hk, rfl, rfl, hz, hf⟩ := hrel
    clear Hfin
    by_cases hlt : k < n
    · obtain ⟨b, o, Aj, cj, rfl, _, c0, _⟩ := hr.at_ (j := k) (by rw [Hl.out]; exact hlt)
      have ht := tot_drop (rs := rs) (k := k) (by rw [Hl.out]; exact hlt)
      have hm : (rs.getD k []).length ≤ 9223372036854775807 := Hrow.out _ (by
        rw [List.getD_eq_getElem?_getD, List.getElem?_eq_getElem (by rw [Hl.out]; exact hlt)]
        exact List.getElem_mem _)
      generalize (rs.getD k []).length = m at *
      have hf2 := hf.out
      rw [ht] at hf2
      have k0 : (0 : Int) ≤ k := by omega
      have k1 : (k : Int) < n := by omega
      have HT := Lib.hid hf2
      clear hr hf ht hf2
      by_cases hmz : m ≤ z
      · have cS := szIntS_any z Aj m cj w hz hm
        rw [show szRes z m = ((z - m : Nat) : Int) from by rw [szRes, if_pos hmz]] at cS
        have hzm : Hid (szRes z (m + tot (rs.drop (k + 1))) = szRes (z - m) (tot (rs.drop (k + 1)))) := Lib.hid (szRes_sub hmz)
        obtain ⟨y, hy⟩ : ∃ y, y = z - m := ⟨_, rfl⟩
        rw [← hy] at cS hzm
        have hy2 : y ≤ 1048576 := by omega
        clear hy
        go_wp2_with fail
        refine cS.mono ?_
        rintro e w1 ⟨rfl, rfl⟩
        go_wp2_with fail
        go_round
        case rel => exact ⟨k + 1, y, by omega, by go_num, rfl, hy2, Lib.hid (HT.out.trans hzm.out)⟩
        case measure => simp [intOf]; omega
      · have cS := szIntS_any z Aj m cj w hz hm
        rw [show szRes z m = -1 from by rw [szRes, if_neg hmz]] at cS
        have hfin : szRes left (n + tot rs) = -1 := by rw [HT.out, szRes, if_neg (by omega)]
        have HF := Lib.hid hfin
        clear hfin HT
        go_wp2_with fail
        refine cS.mono ?_
        rintro e w1 ⟨rfl, rfl⟩
        go_wp2_with fail
        go_ret
        exact ⟨ret_int HF.out.symm, rfl⟩
    · obtain rfl : k = n := by omega
      have he := hf.out
      rw [show rs.drop k = [] by rw [← Hl.out]; exact List.drop_length] at he
      rw [show szRes z (tot []) = (z : Int) from by simp [szRes, tot]] at he
      have HE := Lib.hid he
      clear he hf hr
      go_wp2_with fail
      go_ret
      exact ⟨ret_int HE.out.symm, rfl⟩
/-- Comparing only reads. -/
theorem eqIntS_quiet (n c1 c2 : Nat) (A B : Option Addr) (xs : List Int) (w : World) (ha : Ints w A xs) (hb : Ints w B xs) (hl : xs.length = n) (hn : n ≤ 1000000000000) :
    Calls Try.prog 20 #[.slice A n c1, .slice B n c2] w fun e w' => e = .returned (.bool true) ∧ ∃ q, w' = w.drewN q := by
  have Hl := Lib.hid hl
  clear hl
  go_enter Try.func20, Try.ntmps20
  go_wp2_with fail
  go_loopw [5] (fun i wr => ∃ j : Nat, j ≤ n ∧ i = .int .i64 j ∧ ∃ q, wr = w.drewN q) (fun i _ => n - (intOf i).toNat)
  case atStart => exact ⟨0, Nat.zero_le _, rfl, 0, rfl⟩
  case round =>
    obtain ⟨j, hj, rfl, q, hq⟩ := hrel
    have hbr : Below w.heap.size w wr := by rw [hq]; exact below_drewN (Below.refl _ _) q
    by_cases hlt : j < n
    · obtain ⟨b, o, rfl, hbl, hc⟩ := (ha.bound.below hbr).at_ (j := j) (by rw [Hl.out]; exact hlt)
      obtain ⟨b', o', rfl, hbl', hc'⟩ := (hb.bound.below hbr).at_ (j := j) (by rw [Hl.out]; exact hlt)
      generalize hx : xs.getD j 0 = x at hc hc'
      have hj0 : (0 : Int) ≤ j := by omega
      have hj1 : (j : Int) < n := by omega
      have Hq := Lib.hid hq
      clear ha hb hx hbr hq
      go_wp2_with fail
      go_quiet (fail)
      go_wp2_with fail
      go_roundw
      case rel => exact ⟨j + 1, by omega, by go_num, q + nq, by rw [Hq.out, World.drewN_drewN]⟩
      case measure => simp [intOf]; omega
    · obtain rfl : j = n := by omega
      have Hq := Lib.hid hq
      clear hbr hq
      go_wp2_with fail
      go_ret
      exact ⟨rfl, q, Hq.out⟩
set_option maxRecDepth 100000 in
/-- Two slices of slices that read as the same rows. -/
theorem eqIntSS_quiet (A B : Option Addr) (n c1 c2 : Nat) (rs : List (List Int)) (w : World) (ha : Rows w.heap.size w A rs) (hb : Rows w.heap.size w B rs) (hl : rs.length = n) (hn : n ≤ 1000000000000) (hrow : tot rs ≤ 1000000000000) :
    Calls Try.prog 21 #[.slice A n c1, .slice B n c2] w fun e w' => e = .returned (.bool true) ∧ ∃ q, w' = w.drewN q := by
  have Hl := Lib.hid hl
  have Hrow := Lib.hid hrow
  clear hl hrow
  go_enter Try.func21, Try.ntmps21
  go_wp2_with fail
  go_loopw [5] (fun i wr => ∃ k : Nat, k ≤ n ∧ i = .int .i64 k ∧ ∃ q, wr = w.drewN q) (fun i _ => n - (intOf i).toNat)
  case atStart => exact ⟨0, Nat.zero_le _, rfl, 0, rfl⟩
  case round =>
    obtain ⟨k, hk, rfl, q, hq⟩ := hrel
    have low : Below w.heap.size w wr := by rw [hq]; exact below_drewN (Below.refl _ _) q
    by_cases hlt : k < n
    · obtain ⟨b, o, Aj, cj, rfl, _, c0, r0⟩ := (ha.below low).at_ (j := k) (by rw [Hl.out]; exact hlt)
      obtain ⟨b', o', Aj', cj', rfl, _, c1, r1⟩ := (hb.below low).at_ (j := k) (by rw [Hl.out]; exact hlt)
      have hm : (rs.getD k []).length ≤ 1000000000000 := Nat.le_trans (tot_at (by rw [Hl.out]; exact hlt)) Hrow.out
      generalize hx : rs.getD k [] = xs at *
      obtain ⟨m, hxm⟩ : ∃ m, xs.length = m := ⟨_, rfl⟩
      rw [hxm] at c0 c1 hm
      have HX := Lib.hid hxm
      have i0 := r0.ints low.size
      have i1 := r1.ints low.size
      have Hq := Lib.hid hq
      have cE : ∀ t, Calls Try.prog 20 #[.slice Aj m cj, .slice Aj' m cj'] (wr.drewN t) fun e w' => e = .returned (.bool true) ∧ ∃ q, w' = (wr.drewN t).drewN q := fun t =>
        eqIntS_quiet m cj cj' Aj Aj' xs (wr.drewN t) i0 i1 hxm hm
      have k0 : (0 : Int) ≤ k := by omega
      have k1 : (k : Int) < n := by omega
      clear ha hb hx hxm r0 r1 low hq
      go_wp2_with fail
      go_quiet (first | (go_at_call 20; refine Calls.quiet_of (cE _)))
      go_wp2_with fail
      go_roundw
      case rel => exact ⟨k + 1, by omega, by go_num, q + nq, by rw [Hq.out, World.drewN_drewN]⟩
      case measure => simp [intOf]; omega
    · obtain rfl : k = n := by omega
      have Hq := Lib.hid hq
      clear low hq
      go_wp2_with fail
      go_ret
      exact ⟨rfl, q, Hq.out⟩
theorem eqIntSS_same (A B : Option Addr) (n c1 c2 : Nat) (rs : List (List Int)) (w : World) (ha : Rows w.heap.size w A rs) (hb : Rows w.heap.size w B rs) (hl : rs.length = n) (hn : n ≤ 1000000000000) (hrow : tot rs ≤ 1000000000000) :
    Calls Try.prog 21 #[.slice A n c1, .slice B n c2] w fun e w' => e = .returned (.bool true) ∧ Below w.heap.size w w' :=
  (eqIntSS_quiet A B n c1 c2 rs w ha hb hl hn hrow).mono fun _ _ ⟨he, q, hq⟩ => ⟨he, by rw [hq]; exact below_drewN (Below.refl _ _) q⟩
theorem infoInts : ∃ i, Try.prog.info? 25 = some i ∧ i.zero = some (.slice none 0 0) ∧ i.size = 1 ∧ i.bytes = 24 := by
  obtain ⟨i, hi, hz, h1, h2⟩ := info_parts (show (Try.prog.info? 25).map (fun i => (i.zero, i.size, i.bytes)) = some (some (.slice none 0 0), 1, 24) by kernel_rfl)
  exact ⟨i, hi, hz, h1, h2⟩
/-- The first k rows are there; block g holds the outer slice. -/
structure PartSS (g : Nat) (w : World) (n : Nat) (us : List Value) (rs : List (List Int)) (k : Nat) : Prop where
  own : w.ownsRow g 25 1 (.slice (some ⟨g, 0, none⟩) n n) n us
  row : ∀ j, j < k → OwnA 1 (g + 1) w.heap.size w (us.getD j undef) (rs.getD j []).length (rs.getD j [])
  ap : ∀ i j, i < j → j < k → apart (us.getD i undef) (us.getD j undef)
theorem getD_set_ne {us : List Value} {j k : Nat} (h : k ≠ j) (u : Value) : (us.set k u).getD j undef = us.getD j undef := by
  rw [List.getD_eq_getElem?_getD, List.getD_eq_getElem?_getD, List.getElem?_set_ne h]
theorem getD_set_eq {us : List Value} {k : Nat} (h : k < us.length) (u : Value) : (us.set k u).getD k undef = u := by
  rw [List.getD_eq_getElem?_getD, List.getElem?_set_self h]; rfl
theorem PartSS.step {g n k : Nat} {w w1 : World} {us : List Value} {rs : List (List Int)} (h : PartSS g w n us rs k) (hk : k < n) (hg : g < w.heap.size) {u : Value} {m : Nat} (ho : OwnA 1 w.heap.size w1.heap.size w1 u m (rs.getD k [])) (hm : (rs.getD k []).length = m) (hb : Below w.heap.size w w1) :
    PartSS g (w1.setCell ⟨g, k, none⟩ u) n (us.set k u) rs (k + 1) := by
  have hul : us.length = n := by have := h.own.1; omega
  refine ⟨((own_below h.own hb).stored k u).1, fun j hj => ?_, fun i j hij hj => ?_⟩
  · rcases Nat.lt_or_ge j k with h1 | h1
    · rw [getD_set_ne (by omega)]
      exact (((h.row j h1).below hb).setFar (by omega) u).wide (Nat.le_refl _) (by simpa using hb.size)
    · obtain rfl : j = k := by omega
      rw [getD_set_eq (by omega), hm]
      exact (ho.setFar hg u).wide (by omega) (by simp)
  · rcases Nat.lt_or_ge j k with h1 | h1
    · rw [getD_set_ne (by omega), getD_set_ne (by omega)]
      exact h.ap i j hij h1
    · obtain rfl : j = k := by omega
      rw [getD_set_ne (by omega), getD_set_eq (by omega)]
      exact (h.row i hij).apart_of ho (Nat.le_refl _)
theorem PartSS.done {g n : Nat} {w : World} {us : List Value} {rs : List (List Int)} (h : PartSS g w n us rs n) (hl : rs.length = n) : OwnSS g w.heap.size w (.slice (some ⟨g, 0, none⟩) n n) n us rs :=
  ⟨⟨_, h.own⟩, fun k e => (h.own.lt k e).2, hl, fun j hj => (h.row j hj).wide (by omega) (Nat.le_refl _), fun j hj k e e' => by
    have h1 : g = k := by simpa [Value.ownBlock] using e
    have := ((h.row j hj).lt e').1
    omega, h.ap⟩
set_option maxRecDepth 100000 in
theorem toIntSS_own (A : Option Addr) (n c : Nat) (rs : List (List Int)) (w : World) (hr : Rows w.heap.size w A rs) (hl : rs.length = n) (hn : n ≤ 2000000) (ht : tot rs ≤ 2000000) :
    Calls Try.prog 18 #[.slice A n c] w fun e w' => ∃ (A' : Option Addr) (us : List Value), e = .returned (.slice A' n n) ∧ OwnSS w.heap.size w'.heap.size w' (.slice A' n n) n us rs ∧ Below w.heap.size w w' := by
  have Hl := Lib.hid hl
  have Ht := Lib.hid ht
  clear hl ht
  go_enter Try.func18, Try.ntmps18
  go_wp2_with (first | (refine make_fullI Try.underlying40 infoInts rfl rfl _ _ rfl w.heap.size _ _ _ _ n rfl rfl rfl rfl (by omega) (by unfold maxLen; omega) (Nat.le_refl _) ?_))
  intro w1 hown1 hg1
  have hb1 : Below w.heap.size w w1 := (Below.refl _ _).grown hg1 (Nat.le_refl _) (fun k h => by cases h)
  have hp : PartSS w.heap.size w1 n (List.replicate n (.slice none 0 0)) rs 0 := ⟨hown1, fun j hj => by omega, fun i j _ hj => by omega⟩
  have hs1 : w.heap.size < w1.heap.size := (hown1.lt w.heap.size rfl).2
  have Hp := Lib.hid hp
  clear hown1 hg1 hp
  go_wp2_with fail
  go_loopw [4] (fun i wr => ∃ (k : Nat) (us : List Value), k ≤ n ∧ i = .int .i64 k ∧ PartSS w.heap.size wr n us rs k ∧ Below w.heap.size w wr ∧ w.heap.size < wr.heap.size) (fun i _ => n - (intOf i).toNat)
  case atStart => exact ⟨0, _, Nat.zero_le _, rfl, Hp.out, hb1, hs1⟩
  case round =>
    obtain ⟨k, us, hk, rfl, hp, hb, hs⟩ := hrel
    clear Hp
    by_cases hlt : k < n
    · obtain ⟨b, o, Aj, cj, rfl, hbl, c0, r0⟩ := (hr.below hb).at_ (j := k) (by rw [Hl.out]; exact hlt)
      have hm : (rs.getD k []).length ≤ 2000000 := Nat.le_trans (tot_at (by rw [Hl.out]; exact hlt)) Ht.out
      obtain ⟨m, hxm⟩ : ∃ m, (rs.getD k []).length = m := ⟨_, rfl⟩
      rw [hxm] at c0 hm
      have HX := Lib.hid hxm
      have i0 := r0.ints hb.size
      have k0 : (0 : Int) ≤ k := by omega
      have k1 : (k : Int) < n := by omega
      have HP := Lib.hid hp
      have hul : us.length = n := by have := hp.own.1; omega
      clear hr hxm r0 hp
      go_wp2_with fail
      refine (toIntS_ownA Aj m cj _ wr i0 HX.out hm).mono ?_
      rintro e w2 ⟨A2, rfl, o2, hb2⟩
      have st := HP.out.step hlt hs o2 HX.out hb2
      have hown := own_below HP.out.own hb2
      have hcell : w2.cell? ⟨w.heap.size, k, none⟩ = some (us.getD k undef) := by
        rw [hown.cellAt k (by omega), List.getD_eq_getElem?_getD, List.getElem?_eq_getElem (by omega)]; rfl
      have hfr := hown.frozenAt k
      have ST := Lib.hid st
      have LOW := Lib.hid ((hb.trans (hb2.mono hb.size)).setCell (p := ⟨w.heap.size, k, none⟩) (Nat.le_refl _) (.slice A2 m m))
      have HS : Hid (w.heap.size < (w2.setCell ⟨w.heap.size, k, none⟩ (.slice A2 m m)).heap.size) := Lib.hid (by have := hb2.size; simp; omega)
      clear st hown o2 hb2 hb hs i0
      go_wp2_with fail
      go_roundw
      case rel => exact ⟨k + 1, _, by omega, by go_num, ST.out, LOW.out, HS.out⟩
      case measure => simp [intOf]; omega
    · obtain rfl : k = n := by omega
      have HP := Lib.hid (hp.done Hl.out)
      clear hp
      go_wp2_with fail
      go_ret
      exact ⟨_, us, rfl, HP.out, hb⟩
theorem OwnSS.marked {lo hi n j m : Nat} {w w1 : World} {v : Value} {us : List Value} {rs : List (List Int)} {xs : List Int} (h : OwnSS lo hi w v n us rs) (hj : j < n) (hg : w.grownBy w1 (us.getD j undef).ownBlock) (hr : OwnA 1 lo hi w1 (us.getD j undef) m xs) (hm : xs.length = m) :
    OwnSS lo hi w1 v n us (rs.set j xs) := by
  have hl := h.len
  refine ⟨?_, h.top, by rw [List.length_set]; exact h.len, fun i hi' => ?_, h.out, h.ap⟩
  · obtain ⟨e, ho⟩ := h.own
    refine ⟨e, ho.kept hg ?_⟩
    rcases hv : v.ownBlock with _ | k
    · exact .inl rfl
    · exact .inr (fun e => h.out j hj k hv e.symm)
  · by_cases e : j = i
    · subst e
      have e1 : (rs.set j xs).getD j [] = xs := by rw [List.getD_eq_getElem?_getD, List.getElem?_set_self (by omega), Option.getD_some]
      rw [e1, hm]
      exact hr
    · have e1 : (rs.set j xs).getD i [] = rs.getD i [] := by rw [List.getD_eq_getElem?_getD, List.getElem?_set_ne e, ← List.getD_eq_getElem?_getD]
      rw [e1]
      refine (h.row i hi').keep hg ?_
      rcases Nat.lt_or_ge i j with h1 | h1
      · exact h.ap i j h1 hj
      · exact (h.ap j i (by omega) hi').symm
theorem tot_take {rs : List (List Int)} {k : Nat} (hk : k < rs.length) : tot (rs.take (k + 1)) = tot (rs.take k) + (rs.getD k []).length := by
  induction rs generalizing k with
  | nil => simp at hk
  | cons r rs ih =>
    cases k with
    | zero => simp [tot]
    | succ k =>
      have := ih (k := k) (by simpa using hk)
      simp only [List.take_succ_cons, tot, List.getD_cons_succ]
      omega
theorem tot_take_le (rs : List (List Int)) (k : Nat) : tot (rs.take k) ≤ tot rs := by
  induction rs generalizing k with
  | nil => simp
  | cons r rs ih =>
    cases k with
    | zero => simp [tot]
    | succ k => simp only [List.take_succ_cons, tot]; have := ih k; omega
/-- Rows 0 to j - 1 marked, one number after the other; the others as they were. -/
structure MarkedTo (k : Nat) (rs ys : List (List Int)) (j : Nat) : Prop where
  done : ∀ i, i < j → ys.getD i [] = markInts (k + tot (rs.take i)) (rs.getD i []).length
  rest : ∀ i, j ≤ i → ys.getD i [] = rs.getD i []
theorem MarkedTo.start (k : Nat) (rs : List (List Int)) : MarkedTo k rs rs 0 := ⟨fun i h => by omega, fun i _ => rfl⟩
theorem MarkedTo.step {k j : Nat} {rs ys : List (List Int)} (h : MarkedTo k rs ys j) (hj : j < ys.length) : MarkedTo k rs (ys.set j (markInts (k + tot (rs.take j)) (rs.getD j []).length)) (j + 1) := by
  refine ⟨fun i hi => ?_, fun i hi => ?_⟩
  · by_cases e : j = i
    · subst e
      rw [List.getD_eq_getElem?_getD, List.getElem?_set_self hj, Option.getD_some]
    · rw [List.getD_eq_getElem?_getD, List.getElem?_set_ne e, ← List.getD_eq_getElem?_getD]
      exact h.done i (by omega)
  · rw [List.getD_eq_getElem?_getD, List.getElem?_set_ne (by omega), ← List.getD_eq_getElem?_getD]
    exact h.rest i (by omega)
set_option maxRecDepth 100000 in
theorem markIntSS_own (lo hi n k : Nat) (v : Value) (us : List Value) (rs : List (List Int)) (w : World) (h : OwnSS lo hi w v n us rs) (hn : tot rs + k ≤ 1000000000) (hn2 : n ≤ 2000000) :
    Calls Try.prog 22 #[v, .int .i64 (k : Int)] w fun e w' => e = .returned (.int .i64 ((k + tot rs : Nat) : Int)) ∧ (∃ ys, OwnSS lo hi w' v n us ys ∧ MarkedTo k rs ys n) ∧ Mid lo hi w w' := by
  obtain ⟨A, c, rfl⟩ := h.form
  have Hl := Lib.hid h.len
  have Hn := Lib.hid hn
  have H := Lib.hid h
  clear h hn
  go_enter Try.func22, Try.ntmps22
  go_wp2_with fail
  go_loopw [1, 5] (fun a i wr => ∃ (j K : Nat) (ys : List (List Int)), j ≤ n ∧ i = .int .i64 j ∧ a = .int .i64 (K : Int) ∧ Hid (K = k + tot (rs.take j)) ∧ OwnSS lo hi wr (.slice A n c) n us ys ∧ MarkedTo k rs ys j ∧ Mid lo hi w wr) (fun _ i _ => n - (intOf i).toNat)
  case atStart => exact ⟨0, k, rs, Nat.zero_le _, rfl, rfl, Lib.hid (by simp [tot]), H.out, MarkedTo.start _ _, Mid.refl _ _ _⟩
  case round =>
    obtain ⟨j, K, ys, hj, rfl, rfl, hK, ho, hm, mid⟩ := hrel
    clear H
    by_cases hlt : j < n
    · have hyl := ho.len
      obtain ⟨b, o, Aj, cj, e1, hbl, c0, r0⟩ := ho.rows.at_ (j := j) (by omega)
      subst e1
      have row := ho.row j hlt
      obtain ⟨Aj', cj', e2⟩ := row.form
      have hcell : wr.cell? ⟨b, o + j, none⟩ = some (us.getD j undef) := by
        obtain ⟨te, hown⟩ := ho.own
        have hul := ho.ulen
        obtain ⟨g, e3, _⟩ := own_addr hown (by omega)
        injection e3 with e3; injection e3 with e3 e4
        subst e3 e4
        rw [Nat.zero_add, hown.cellAt j (by omega), List.getD_eq_getElem?_getD, List.getElem?_eq_getElem (by omega)]; rfl
      have eu : us.getD j undef = .slice Aj (ys.getD j []).length cj := by
        rw [hcell] at c0
        injection c0
      have hmj := hm.rest j (Nat.le_refl _)
      have tl := tot_take (rs := rs) (k := j) (by rw [Hl.out]; exact hlt)
      have tle := tot_take_le rs (j + 1)
      have hKn := hK.out
      have hnn := Hn.out
      have key : ∀ w2, OwnA 1 lo hi w2 (.slice Aj (ys.getD j []).length cj) (ys.getD j []).length (markInts K (ys.getD j []).length) → wr.grownBy w2 (Value.slice Aj (ys.getD j []).length cj).ownBlock → (OwnSS lo hi w2 (.slice (some ⟨b, o, none⟩) n c) n us (ys.set j (markInts K (ys.getD j []).length)) ∧ MarkedTo k rs (ys.set j (markInts K (ys.getD j []).length)) (j + 1) ∧ Mid lo hi w w2) := fun w2 h1 h2 => by
        rw [← eu] at h1 h2
        refine ⟨ho.marked hlt h2 h1 (markInts_length _ _), ?_, mid.trans (Mid.of_grown h2 (fun q e => row.ltB e))⟩
        rw [hmj, hKn]
        exact hm.step (by omega)
      rw [eu, hmj] at row
      rw [hmj] at key c0
      generalize hx : (rs.getD j []).length = m at *
      have hKm : K + m = k + tot (rs.take (j + 1)) := by omega
      have hb : m + K ≤ 1000000000 := by omega
      have HK := Lib.hid hKm
      have ROW := Lib.hid row
      have k0 : (0 : Int) ≤ j := by omega
      have k1 : (j : Int) < n := by omega
      clear hcell eu hmj tl tle hKn hnn hKm hx row ho hm mid r0 e2 hK
      go_wp2_with fail
      refine (markIntS_ownA lo hi m K _ _ wr ROW.out hb).mono ?_
      rintro e w2 ⟨rfl, o2, hg2⟩
      obtain ⟨q1, q2, q3⟩ := key w2 o2 hg2
      have Q1 := Lib.hid q1
      have Q2 := Lib.hid q2
      clear key o2 hg2 ROW q1 q2
      go_wp2_with fail
      go_roundw
      case rel => exact ⟨j + 1, K + m, _, by omega, by go_num, rfl, HK, Q1.out, Q2.out, q3⟩
      case measure => simp [intOf]; omega
    · obtain rfl : j = n := by omega
      have hfin := hK.out
      have HO := Lib.hid ho
      have HM := Lib.hid hm
      have HF : Hid (K = k + tot rs) := Lib.hid (by rw [hfin, ← Hl.out, List.take_length])
      clear hfin hK ho hm
      go_wp2_with fail
      go_ret
      exact ⟨ret_int (by rw [HF.out]), ⟨ys, HO.out, HM.out⟩, mid⟩
open Go.ChangeShapes Go.WideShapes in
/-- What an argument's reading says. -/
theorem rows_arg {H : Type} {enc : TypeId × Value → H} {P : Program} {w : World} {base : Nat} {held : Bool} {t e q : TypeId} {A : Option Addr} {len cap : Nat} {d : DataW H} {p : List MemPlace} (ht : P.underlying t = some (.slice e)) (he : P.underlying e = some (.slice q)) (hq : P.underlying q = some (.int .i64)) (ce : P.cellsOf e = 1) (cq : P.cellsOf q = 1)
    (h : DataW.Trod enc P w base (fun _ => true) held t (.slice A len cap) d p) :
    ∃ rs : List (List Int), Rows w.heap.size w A rs ∧ rs.length = len ∧ len ≤ 9223372036854775807 ∧ ∀ r ∈ rs, r.length ≤ 9223372036854775807 := by
  obtain ⟨fuel, hf⟩ := h
  rcases Go.Deep.open_int_rows ht he hq ce cq hf with ⟨hcs, _⟩ | ⟨a, l, c, As, L, C, Z, hcs, hb, hlc, hm, hx, hr⟩
  · simp [Value.cells] at hcs
    obtain ⟨rfl, rfl, rfl⟩ := hcs
    exact ⟨[], Rows.nil _ _ _, rfl, by omega, fun r h => by simp at h⟩
  · simp [Value.cells] at hcs
    obtain ⟨rfl, rfl, rfl⟩ := hcs
    have gd : ∀ j, j < len → ((List.range len).map fun r => (Z r).take (L r)).getD j [] = (Z j).take (L j) := fun j hj => by
      simp [List.getD_eq_getElem?_getD, hj]
    have hlen : ∀ j, j < len → ((Z j).take (L j)).length = L j := fun j hj => by
      obtain ⟨_, h1, _, h2, _⟩ := hr j (by omega)
      rw [List.length_take]; omega
    refine ⟨(List.range len).map fun r => (Z r).take (L r), fun h0 => ?_, by simp, by unfold maxLen at hm; omega, fun r h => ?_⟩
    · have h0' : 0 < len := by simpa using h0
      obtain ⟨b, o, spot⟩ := a
      have c00 := (hr 0 (by omega)).1
      have hs : spot = none := by simpa [Addr.add] using World.cell?_spot c00
      subst hs
      refine ⟨b, o, rfl, by have := World.block_lt_of_cell? w _ c00; simpa [Addr.add] using this, fun j hj => ?_⟩
      have hj' : j < len := by simpa using hj
      obtain ⟨h1, h2, h3, h4, _, h5, h6⟩ := hr j (by omega)
      rw [gd j hj', hlen j hj']
      refine ⟨As j, C j, ?_, fun hz => ?_⟩
      · rw [← h1]
        rcases Nat.eq_zero_or_pos j with h | h
        · subst h; simp [Addr.add]
        · simp [Addr.add, Nat.ne_of_gt h]
      · rw [hlen j hj'] at hz
        cases hA : As j with
        | none => have := h5 hA; omega
        | some a' =>
          have hcell := (h6 a' hA).2
          have hi := Ints.of_row h2 h4 (x := a') (w := w) (zs := Z j) (by rw [h4]; exact hcell)
          exact hi.1.bound (by rw [hi.2]; exact hz)
    · obtain ⟨j, hj, rfl⟩ := List.mem_map.1 h
      have hj' : j < len := List.mem_range.1 hj
      have := hr j (by omega)
      rw [hlen j hj']
      have h3 := this.2.2.1
      unfold maxLen at h3
      omega
end Go.Proofs.Ytbbdmgomcpmhpaa
