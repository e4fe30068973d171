/- Draws of texts. -/
import Derived.Test.YtdokgegnpepeeaaDoorDraw
import Derived.Test.YtdokgegnpepeeaaDoorProg
namespace Go.Proofs.YtdokgegnpepeeaaDoor
open Go Go.RowKit
theorem elemU8d : Elem Tryd.prog 22 5 1 1 := ⟨Tryd.underlying22, by
  obtain ⟨i, hi, hz, h1, h2⟩ := info_parts (show (Tryd.prog.info? 5).map (fun i => (i.zero, i.size, i.bytes)) = some (some (.int .u8 0), 1, 1) by kernel_rfl)
  exact ⟨i, _, hi, hz, h1, h2, rfl⟩, by omega⟩
theorem grown_own {w w1 w2 : World} {g base n size : Nat} {e : TypeId} {v : Value} {xs : List Value} (h : w.grownBy w1 (some g)) (hown : w1.ownsRow base e size v n xs) (hg : w1.grownBy w2 v.ownBlock) (hb : w.heap.size ≤ base) : w.grownBy w2 (some g) :=
  ⟨hg.os.trans h.os, hg.tape.trans h.tape, hg.output.trans h.output, Nat.le_trans h.size hg.size, fun k hk hne => (hg.block k (Nat.lt_of_lt_of_le hk h.size) (fun e => by have := (hown.lt k e.symm).1; omega)).trans (h.block k hk hne)⟩
theorem grown_below {w w1 w2 : World} {g : Nat} (h : w.grownBy w1 (some g)) (hb : Below w1.heap.size w1 w2) : w.grownBy w2 (some g) :=
  ⟨hb.os.trans h.os, hb.tape.trans h.tape, hb.output.trans h.output, Nat.le_trans h.size hb.size, fun k hk hne => (hb.block k (Nat.lt_of_lt_of_le hk h.size)).trans (h.block k hk hne)⟩
theorem grown_alloc {w w1 : World} {g : Nat} (h : w.grownBy w1 (some g)) (o : Obj) : w.grownBy (w1.alloc o) (some g) := h.trans (World.grownBy_alloc w1 o _)
theorem cur_own {T : TypeId} {B g : Nat} {w1 w2 : World} {base n size : Nat} {e : TypeId} {v : Value} {xs : List Value} (hc : Cur T B w1 g) (hown : w1.ownsRow base e size v n xs) (hg : w1.grownBy w2 v.ownBlock) (hb : g < base) : Cur T B w2 g :=
  hc.grown hg fun k e => by have := (hown.lt k e).1; omega
theorem own_cur {w1 w2 : World} {g base n size : Nat} {e : TypeId} {v : Value} {xs : List Value} (hown : w1.ownsRow base e size v n xs) (hg : w1.grownBy w2 (some g)) (hb : g < base) : w2.ownsRow base e size v n xs :=
  hown.kept hg (by
    rcases hv : v.ownBlock with _ | k
    · exact .inl rfl
    · refine .inr fun e => ?_
      injection e with e
      have := (hown.lt k hv).1
      omega)
theorem byteVals_snoc (l : List UInt8) (x : Int) (h0 : 0 ≤ x) (h1 : x ≤ 255) : byteVals l ++ (#[Value.int .u8 x] : Array Value).toList = byteVals (l ++ [UInt8.ofNat x.toNat]) := by
  rw [byteVals_append]
  simp only [byteVals, List.map_cons, List.map_nil]
  rw [UInt8.toNat_ofNat']
  congr 3
  omega
theorem l01Text_any (B g : Nat) (x : Int) (h0 : 0 ≤ x) (h1 : x ≤ 5000) (w : World) (hc : Cur 53 B w g) :
    Calls Tryd.prog 25 #[.pointer (some ⟨g, 0, none⟩), .int .i64 x] w (DrawnText 53 B g (fun s => (s.size : Int) = x) w) := by
  obtain ⟨n, rfl⟩ := Int.eq_ofNat_of_zero_le h0
  have hgl := hc.lt
  have hn : n ≤ 5000 := by omega
  have hd : decide ((5000 : Int) < (n : Int)) = false := by simp; omega
  clear h0 h1
  go_enter Tryd.func25, Tryd.ntmps25
  go_wp2_with fail
  go_loopw [5, 6] (fun v i wr => ∃ l : List UInt8, l.length ≤ n ∧ i = .int .i64 (l.length : Int) ∧ wr.ownsRow w.heap.size 5 1 v l.length (byteVals l) ∧ Cur 53 B wr g ∧ w.grownBy wr (some g)) (fun _ i _ => n - (intOf i).toNat)
  case atStart => exact ⟨[], Nat.zero_le _, rfl, World.ownsRow_made w #[] 0 (Nat.le_refl _) (by unfold maxLen; omega) rfl, hc.alloc _, World.grownBy_alloc w _ _⟩
  case round =>
    obtain ⟨l, hl, rfl, hown, hcr, hgr⟩ := hrel
    by_cases hlt : l.length < n
    · go_wp2_with fail
      refine (l01Byte_any B g wr hcr).mono ?_
      rintro e w1 ⟨z, rfl, ⟨hz0, hz1⟩, hc1, hg1⟩
      have hown1 := own_cur hown hg1 hgl
      have hgr1 := hgr.trans hg1
      have hs1 := hgr1.size
      clear hown hcr hgr hg1
      go_wp2_with (first | (at_builtin; refine app_list (e' := 5) elemU8d rfl _ _ rfl w.heap.size _ l.length (byteVals l) rfl (hown1.alloc _) w1.heap.size 1 1 _ (0, 0) rfl (heap_alloc_new w1 _) rfl (oneCell_u8 [_]) (by omega) (by unfold maxLen; omega) (by omega) (by simp; omega) (w1.heap.size + 1) (by simp) ?_))
      intro g2 cap w2 hown2 hgrow hat hgl2
      rw [byteVals_snoc l z hz0 hz1] at hown2
      have hc2 := cur_own (hc1.alloc _) (hown1.alloc _) hgrow hgl
      have hgr2 := grown_own (grown_alloc hgr1 _) (hown1.alloc _) hgrow (Nat.le_refl _)
      have hll : (l ++ [UInt8.ofNat z.toNat]).length = l.length + 1 := by simp
      rw [← hll] at hown2
      have Hown2 := Lib.hid hown2
      have Hc2 := Lib.hid hc2
      have Hgr2 := Lib.hid hgr2
      have Hll := Lib.hid hll
      clear hown2 hc2 hgr2 hll hown1 hc1 hgr1 hgrow
      go_wp2_with fail
      go_roundw
      case rel => exact ⟨_, by rw [Hll.out]; omega, by rw [Hll.out]; go_num, by simpa using Hown2.out, Hc2.out, Hgr2.out⟩
      case measure => simp [intOf]; omega
    · have hle : l.length = n := by omega
      have Hle := Lib.hid hle
      clear hle
      have hcv := conv_bytes (src := 22) (dst := 9) Tryd.underlying22 Tryd.underlying5 Tryd.underlying9 hown
      have Hown := Lib.hid hown
      clear hown
      go_wp2_with fail
      go_ret
      exact ⟨_, rfl, by show ((l.toArray.size : Nat) : Int) = _; rw [List.size_toArray, Hle.out], hcr, hgr⟩
theorem make_full {P : Program} {t e : TypeId} {bytes : Nat} {z : Value} {w : World} (ht : P.underlying t = some (.slice e)) (hinfo : ∃ i, P.info? e = some i ∧ i.zero = some z ∧ i.size = 1 ∧ i.bytes = bytes) (hz : z.cells = #[z]) {ops : Array Oper} {rest : List Oper} {o : Oper} {a : Act} {Q : Exit → Act → World → Prop} (hgd : o.guard = none) (l c : Operand)
    (ho : o.op = Op.makeSlice t l c) (base : Nat) (kl kc : IntKind) (L C : Int) (n : Nat) (hl : a.eval l = .int kl L) (hc : a.eval c = .int kc C) (hL : L = (n : Int)) (hC : C = (n : Int)) (b2 : bytes * n ≤ 281474976710656) (b3 : n ≤ maxLen) (b4 : base ≤ w.heap.size)
    (h : ∀ w', w'.ownsRow base e 1 (.slice (some ⟨w.heap.size, 0, none⟩) n n) n (List.replicate n z) → w.grownBy w' none → wpList P ops Q rest (a.put o.dst (.slice (some ⟨w.heap.size, 0, none⟩) n n)) w') :
    wpList P ops Q (o :: rest) a w := by
  obtain ⟨i, hi, hz0, hz1, hz2⟩ := hinfo
  refine wpList_make_full w hgd l c t ho base e i z 1 ht hi hz0 hz1 kl kc L C n hl hc hL hC (by rw [hz2]; exact b2) b3 b4 fun w' r1 r2 => h w' ?_ r2
  rw [hz, Nat.mul_one, toList_madeCells_one] at r1
  exact r1
theorem infoU8 : ∃ i, Tryd.prog.info? 5 = some i ∧ i.zero = some (.int .u8 0) ∧ i.size = 1 ∧ i.bytes = 1 := by
  obtain ⟨i, hi, hz, h1, h2⟩ := info_parts (show (Tryd.prog.info? 5).map (fun i => (i.zero, i.size, i.bytes)) = some (some (.int .u8 0), 1, 1) by kernel_rfl)
  exact ⟨i, hi, hz, h1, h2⟩
theorem set_fill (n k : Nat) (c : Value) (z : Value) (hk : k < n) : (List.replicate k c ++ List.replicate (n - k) z).set k c = List.replicate (k + 1) c ++ List.replicate (n - (k + 1)) z := by
  rw [List.set_append_right _ _ (by simp), List.length_replicate, Nat.sub_self, show n - k = (n - (k + 1)) + 1 by omega, List.replicate_succ (n := n - (k + 1)), List.set_cons_zero, List.replicate_succ' (n := k), List.append_assoc]
  rfl
theorem l01Long_any (x : Int) (h0 : 0 ≤ x) (h1 : x ≤ 30000) (c : UInt8) (w : World) :
    Calls Tryd.prog 23 #[.int .i64 x, .int .u8 (c.toNat : Int)] w fun e w' => e = .returned (.string ⟨(List.replicate x.toNat c).toArray⟩) ∧ Below w.heap.size w w' := by
  obtain ⟨n, rfl⟩ := Int.eq_ofNat_of_zero_le h0
  rw [Int.toNat_natCast]
  have hn : n ≤ 30000 := by omega
  clear h0 h1
  go_enter Tryd.func23, Tryd.ntmps23
  go_wp2_with (first | (refine make_full Tryd.underlying22 infoU8 rfl rfl _ _ rfl w.heap.size _ _ _ _ n rfl rfl rfl rfl (by omega) (by unfold maxLen; omega) (Nat.le_refl _) ?_))
  intro w1 hown1 hg1
  have hb1 : Below w.heap.size w w1 := (Below.refl _ _).grown hg1 (Nat.le_refl _) (fun k h => by cases h)
  have hgl : 0 < n → w.heap.size < w1.heap.size := fun h => by
    obtain ⟨g, hg, hg2, hg3⟩ := own_addr hown1 h
    injection hg with hg
    injection hg with hg
    omega
  have hoz : w1.ownsRow w.heap.size 5 1 (.slice (some ⟨w.heap.size, 0, none⟩) n n) n (List.replicate 0 (Value.int .u8 (c.toNat : Int)) ++ List.replicate (n - 0) (Value.int .u8 0)) := by simpa using hown1
  have Hoz := Lib.hid hoz
  clear hown1 hg1 hoz hgl
  go_wp2_with fail
  go_loopw [6] (fun i wr => ∃ k : Nat, k ≤ n ∧ i = .int .i64 k ∧ wr.ownsRow w.heap.size 5 1 (.slice (some ⟨w.heap.size, 0, none⟩) n n) n (List.replicate k (Value.int .u8 (c.toNat : Int)) ++ List.replicate (n - k) (Value.int .u8 0)) ∧ Below w.heap.size w wr) (fun i _ => n - (intOf i).toNat)
  case atStart => exact ⟨0, Nat.zero_le _, rfl, Hoz.out, hb1⟩
  case round =>
    obtain ⟨k, hk, rfl, hown, hb⟩ := hrel
    by_cases hlt : k < n
    · have hcell : wr.cell? ⟨w.heap.size, k, none⟩ = some (Value.int .u8 0) := by
        rw [hown.cellAt k (by omega), List.getElem?_append_right (by simp), List.length_replicate, Nat.sub_self, List.getElem?_replicate_of_lt (by omega)]
      have hfr := hown.frozenAt k
      have hst := (hown.stored k (Value.int .u8 (c.toNat : Int))).1
      rw [set_fill n k _ _ hlt] at hst
      have hb2 : Below w.heap.size w (wr.setCell ⟨w.heap.size, k, none⟩ (Value.int .u8 (c.toNat : Int))) := hb.setCell (Nat.le_refl _) _
      have Hst := Lib.hid hst
      have Hb2 := Lib.hid hb2
      have hk0 : (0 : Int) ≤ k := by omega
      have hk1 : (k : Int) < n := by omega
      clear hown hst hb2
      go_wp2_with fail
      go_roundw
      case rel => exact ⟨k + 1, by omega, by go_num, Hst.out, Hb2.out⟩
      case measure => simp [intOf]; omega
    · obtain rfl : k = n := by omega
      rw [Nat.sub_self, List.replicate_zero, List.append_nil] at hown
      have e : List.replicate k (Value.int .u8 (c.toNat : Int)) = byteVals (List.replicate k c) := by simp [byteVals]
      rw [e] at hown
      have hcv := conv_bytes (src := 22) (dst := 9) Tryd.underlying22 Tryd.underlying5 Tryd.underlying9 hown
      have Hown := Lib.hid hown
      clear hown e
      go_wp2_with fail
      go_ret
      exact ⟨by first | rfl | simp, hb⟩
theorem l01Pick_any (B g b o n c : Nat) (P : ByteArray → Prop) (w : World) (hc : Cur 53 B w g) (hn : 0 < n) (hn2 : n ≤ 256) (hb : b ≠ g) (hbl : b < w.heap.size)
    (hcell : ∀ k, k < n → ∃ x : ByteArray, P x ∧ w.cell? ⟨b, o + k, none⟩ = some (.string x)) :
    Calls Tryd.prog 30 #[.pointer (some ⟨g, 0, none⟩), .slice (some ⟨b, o, none⟩) n c] w (DrawnText 53 B g P w) := by
  go_enter Tryd.func30, Tryd.ntmps30
  go_wp2_with fail
  refine (l01Below_any B g n w hc).mono ?_
  rintro e w1 ⟨x, rfl, ⟨_, hx⟩, hc1, hg1⟩
  obtain ⟨hx0, hx1⟩ := hx (by omega)
  obtain ⟨k, rfl⟩ := Int.eq_ofNat_of_zero_le hx0
  obtain ⟨v, hP, hv⟩ := hcell k (by omega)
  have hv1 : w1.cell? ⟨b, o + k, none⟩ = some (.string v) := (World.cell?_of_block (hg1.block b hbl (fun e => hb (by injection e)))).trans hv
  clear hcell hv hx
  go_wp2_with fail
  go_ret
  exact ⟨_, rfl, hP, hc1, hg1⟩
end Go.Proofs.YtdokgegnpepeeaaDoor
