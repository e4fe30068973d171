/- FormatInt and ParseUint and their models. -/
import Derived.Test.YtjclhlicginekaaGreatDoorProg
import Derived.Test.YtjclhlicginekaaGreatDoorDraw
import Derived.Test.YtjclhlicginekaaGreatDoorDigs
import Derived.Test.YtjclhlicginekaaGreatDoorShelf
import Derived.Test.YtjclhlicginekaaGreatDoorEnv
import Derived.Lib.SmallJoins
namespace Go.Proofs.YtjclhlicginekaaGreatDoor
open Go Go.RowKit
theorem below_growN (w : World) (k : Nat) (os : Array Obj) : Below w.heap.size w (Sort.grow (w.drewN k) os) :=
  ⟨rfl, rfl, rfl, by show _ ≤ (w.heap ++ os).size; simp, fun i hi => by show (w.heap ++ os)[i]? = _; rw [Array.getElem?_append_left hi]⟩
theorem below_bytesW (w : World) (e : TypeId) (t : ByteArray) : Below w.heap.size w (Lib.bytesWorld w e t) := Joins.below_bytesWorld _ w e t (Nat.le_refl _)
theorem impl_FormatInt (n : Int) (hn : inI64 n) (w : World) (ht : TabOk w) :
    Calls Tryz.prog 38 #[.int .i64 n] w fun e w' => e = .returned (.string ⟨(Lib.itoa n).toArray⟩) ∧ Below w.heap.size w w' := by
  go_enter Tryz.func38, Tryz.ntmps38
  go_wp2_with fail
  refine (Tryz.strconv_Itoa n hn.1 hn.2 w ht).mono ?_
  rintro e w1 ⟨rfl, k, os, rfl⟩
  go_wp2_with fail
  go_ret
  exact ⟨rfl, below_growN w k os⟩
theorem figB_dch {d : Nat} (h : d < 10) : figB d = dch d := by unfold figB dch; rw [if_pos h]
theorem Figure_dch (d : Nat) (hd : d < 10) (x : Int) (hx : x = (d : Int)) (w : World) :
    Calls Tryz.prog 79 #[.int .i64 x] w fun e w' => e = .returned (.int .u8 ((dch d).toNat : Int)) ∧ w = w' := by
  subst hx
  have h := l01Figure_any (d : Int) (by omega) (by omega) w
  rw [Int.toNat_natCast, figB_dch hd] at h
  exact h
theorem nDigits_div {u : Nat} (h : ¬ u < 10) : Lib.nDigits u = Lib.nDigits (u / 10) + 1 := Lib.nDigits_big h
/-- What is left to write, and what is written: at most twenty figures. -/
def Room (u k : Nat) : Prop := u < 10 ^ (19 - k) ∧ k ≤ 19
theorem room_step {u k : Nat} (h : Room u k) (hu : 0 < u) : Room (u / 10) (k + 1) := by
  obtain ⟨h1, h2⟩ := h
  have h3 : k ≠ 19 := by
    rintro rfl
    simp at h1; omega
  refine ⟨?_, by omega⟩
  have e : 19 - k = (19 - (k + 1)) + 1 := by omega
  rw [e, Nat.pow_succ] at h1
  omega
theorem digs_next {n u : Nat} {s : ByteArray} (hu : 0 < u) (hd : digs u ++ s.data.toList = digs n) : digs (u / 10) ++ (({ data := #[dch (u % 10)] } : ByteArray) ++ s).data.toList = digs n := by
  rw [← hd, digs_step u hu]; simp
theorem size_next (c : UInt8) (s : ByteArray) : (({ data := #[c] } : ByteArray) ++ s).size = 1 + s.size := by rw [ByteArray.size_append]; rfl
set_option maxRecDepth 100000 in
theorem spec_FormatInt_pos (n : Nat) (hn : (n : Int) ≤ 9223372036854775807) (h0 : 0 < n) (w : World) :
    Calls Tryz.prog 64 #[.int .i64 (n : Int)] w fun e w' => e = .returned (.string ⟨(Lib.itoa (n : Int)).toArray⟩) ∧ Below w.heap.size w w' := by
  have g0 : ((n : Int) == 0) = false := by simp; omega
  have g1 : decide ((n : Int) < 0) = false := by simp
  have r0 : Room n 0 := ⟨by omega, by omega⟩
  have R0 := Lib.hid r0
  have Hn := Lib.hid hn
  clear r0 hn
  go_enter Tryz.func64, Tryz.ntmps64
  go_wp2_with fail
  go_loopw [0, 4] (fun a t wr => ∃ (u : Nat) (s : ByteArray), u ≤ n ∧ a = .int .i64 (u : Int) ∧ t = .string s ∧ Hid (digs u ++ s.data.toList = digs n) ∧ s.size ≤ 19 ∧ Room u s.size ∧ Below w.heap.size w wr) (fun a _ _ => (intOf a).toNat)
  case atStart => exact ⟨n, _, Nat.le_refl _, rfl, rfl, (by show digs n ++ [] = digs n; simp), (by show 0 ≤ 19; omega), R0.out, Below.refl _ _⟩
  case round =>
    obtain ⟨u, s, hu, rfl, rfl, hd, hs, hl, hb⟩ := hrel
    have hbs := hb.size
    have hu2 : (u : Int) ≤ 9223372036854775807 := by have := Hn.out; omega
    by_cases hz : u = 0
    · subst hz
      have hfin : s = ⟨(Lib.itoa (n : Int)).toArray⟩ := by
        apply WideShapes.bytes_inj
        have hd' := hd.out
        rw [digs_zero, List.nil_append] at hd'
        rw [hd', itoa_nat, digs_dec n h0]
      subst hfin
      go_wp2_with fail
      go_ret
      exact ⟨rfl, hb⟩
    · have hp : 0 < u := by omega
      have hz1 : ((u : Int) != 0) = true := by simp; omega
      have hn1 := Lib.hid (digs_next hp hd.out)
      have hs1 := Lib.hid (size_next (dch (u % 10)) s)
      have hr1 := Lib.hid (room_step hl hp)
      have hcv := conv_one (P := Tryz.prog) (w := wr) (src := 22) (dst := 9) (c := dch (u % 10)) Tryz.underlying22 Tryz.underlying5 Tryz.underlying9 rfl
      go_wp2_with fail
      refine (Figure_dch (u % 10) (by omega) _ (by omega) wr).mono ?_
      rintro e w1 ⟨rfl, rfl⟩
      go_wp2_with fail
      go_roundw
      case rel => exact ⟨u / 10, _, by omega, by go_num, rfl, hn1.out, by rw [hs1.out]; have := hr1.out.2; omega, by rw [hs1.out, Nat.add_comm]; exact hr1.out, hb.alloc hbs _⟩
      case measure => simp [intOf]; omega
theorem tmod_neg (u : Nat) : (-(u : Int)).tmod 10 = -((u % 10 : Nat) : Int) := by rw [Int.neg_tmod, Int.tmod_eq_emod_of_nonneg (by omega)]; omega
theorem tdiv_neg (u : Nat) : (-(u : Int)).tdiv 10 = -((u / 10 : Nat) : Int) := by rw [Int.neg_tdiv, Int.tdiv_eq_ediv_of_nonneg (by omega)]; omega
set_option maxRecDepth 100000 in
theorem spec_FormatInt_neg (n : Nat) (hn : n ≤ 9223372036854775808) (h0 : 0 < n) (w : World) :
    Calls Tryz.prog 64 #[.int .i64 (-(n : Int))] w fun e w' => e = .returned (.string ⟨(Lib.itoa (-(n : Int))).toArray⟩) ∧ Below w.heap.size w w' := by
  have g0 : (-(n : Int) == 0) = false := by simp; omega
  have g1 : decide (-(n : Int) < 0) = true := by simp; omega
  have r0 : Room n 0 := ⟨by omega, by omega⟩
  have R0 := Lib.hid r0
  have Hn := Lib.hid hn
  clear r0 hn
  go_enter Tryz.func64, Tryz.ntmps64
  go_wp2_with fail
  go_loopw [0, 4] (fun a t wr => ∃ (u : Nat) (s : ByteArray), u ≤ n ∧ a = .int .i64 (-(u : Int)) ∧ t = .string s ∧ Hid (digs u ++ s.data.toList = digs n) ∧ s.size ≤ 19 ∧ Room u s.size ∧ Below w.heap.size w wr) (fun a _ _ => (-(intOf a)).toNat)
  case atStart => exact ⟨n, _, Nat.le_refl _, rfl, rfl, (by show digs n ++ [] = digs n; simp), (by show 0 ≤ 19; omega), R0.out, Below.refl _ _⟩
  case round =>
    obtain ⟨u, s, hu, rfl, rfl, hd, hs, hl, hb⟩ := hrel
    have hbs := hb.size
    have hu2 : (u : Int) ≤ 9223372036854775808 := by have := Hn.out; omega
    by_cases hz : u = 0
    · subst hz
      have hfin : (({ data := #[45] } : ByteArray) ++ s) = ⟨(Lib.itoa (-(n : Int))).toArray⟩ := by
        apply WideShapes.bytes_inj
        have hd' := hd.out
        rw [digs_zero, List.nil_append] at hd'
        rw [Lib.itoa_neg n h0, ← digs_dec n h0, ← hd']; simp
      have Hfin := Lib.hid hfin
      clear hfin
      go_wp2_with fail
      go_ret
      exact ⟨by simp only [Array.getD]; simp [Hfin.out], hb⟩
    · have hp : 0 < u := by omega
      have hz1 : (-(u : Int) != 0) = true := by simp; omega
      have hn1 := Lib.hid (digs_next hp hd.out)
      have hs1 := Lib.hid (size_next (dch (u % 10)) s)
      have hr1 := Lib.hid (room_step hl hp)
      have hcv := conv_one (P := Tryz.prog) (w := wr) (src := 22) (dst := 9) (c := dch (u % 10)) Tryz.underlying22 Tryz.underlying5 Tryz.underlying9 rfl
      have tm := tmod_neg u
      have td := tdiv_neg u
      have hm10 : u % 10 < 10 := by omega
      have hrange : u / 10 ≤ 922337203685477580 := by have := Hn.out; omega
      generalize u % 10 = m at tm hn1 hs1 hcv hm10
      generalize hq : u / 10 = q at td hn1 hr1 hrange
      have hq1 : q < u := by omega
      have Hq := Lib.hid hq
      clear hq
      by_cases hm0 : m = 0
      · subst hm0
        go_wp2_with fail
        refine (Figure_dch 0 (by omega) _ (by omega) wr).mono ?_
        rintro e w1 ⟨rfl, rfl⟩
        go_wp2_with fail
        go_roundw
        case rel => exact ⟨q, _, by omega, by go_num, rfl, hn1.out, by rw [hs1.out]; have := hr1.out.2; omega, by rw [hs1.out, Nat.add_comm]; exact hr1.out, hb.alloc hbs _⟩
        case measure => simp [intOf]; omega
      · go_wp2_with fail
        refine (Figure_dch m hm10 _ (by omega) wr).mono ?_
        rintro e w1 ⟨rfl, rfl⟩
        go_wp2_with fail
        go_roundw
        case rel => exact ⟨q, _, by omega, by go_num, rfl, hn1.out, by rw [hs1.out]; have := hr1.out.2; omega, by rw [hs1.out, Nat.add_comm]; exact hr1.out, hb.alloc hbs _⟩
        case measure => simp [intOf]; omega
theorem spec_FormatInt_any (n : Int) (hn : inI64 n) (w : World) :
    Calls Tryz.prog 64 #[.int .i64 n] w fun e w' => e = .returned (.string ⟨(Lib.itoa n).toArray⟩) ∧ Below w.heap.size w w' := by
  by_cases h0 : n = 0
  · subst h0
    have e : Lib.itoa 0 = [48] := by unfold Lib.itoa; rw [if_neg (by omega), show (0 : Int).toNat = 0 from rfl, Lib.decDigits_one (by omega)]; rfl
    rw [e]
    go_enter Tryz.func64, Tryz.ntmps64
    go_wp2_with fail
    go_ret
    exact ⟨rfl, Below.refl _ _⟩
  · by_cases h1 : 0 < n
    · obtain ⟨u, rfl⟩ := Int.eq_ofNat_of_zero_le (show 0 ≤ n by omega)
      exact spec_FormatInt_pos u hn.2 (by omega) w
    · obtain ⟨u, hu⟩ := Int.eq_ofNat_of_zero_le (show 0 ≤ -n by omega)
      obtain rfl : n = -(u : Int) := by omega
      exact spec_FormatInt_neg u (by have := hn.1; omega) (by omega) w
/-- How Atoi answers: the number, or something and an error. -/
theorem Atoi_yes (s : ByteArray) (v : Int) (hm : s.size ≤ 1048576) (h : Lib.atoiAll s.data.toList = .ok v) (w : World) :
    Calls Tryz.prog 78 #[.string s] w fun e w' => e = .returned (.tuple #[.int .i64 v, .nilIface]) ∧ Below w.heap.size w w' := by
  refine (Tryz.strconv_Atoi_ok s (by omega) v h w).mono fun e w' ⟨he, hw⟩ => ⟨he, ?_⟩
  rcases hw with rfl | ⟨t, rfl⟩
  · exact Below.refl _ _
  · exact below_bytesW w _ t
def AtoiNo (T : TypeId) (w : World) (e : Ending) (w' : World) : Prop :=
  ∃ (x : Int) (N : Nat), e = .returned (.tuple #[.int .i64 x, .iface T (.pointer (some ⟨N, 0, none⟩))]) ∧ Below w.heap.size w w'
theorem Atoi_no (s : ByteArray) (hm : s.size ≤ 1048576) (h : ∀ v, Lib.atoiAll s.data.toList ≠ .ok v) (w : World) (he : ErrOk w) :
    Calls Tryz.prog 78 #[.string s] w (AtoiNo 144 w) := by
  obtain ⟨⟨t1, p1, h1⟩, t2, p2, h2⟩ := he
  have c1 := World.var?_cell (g := 4) (by kernel_rfl) h1 0
  have c2 := World.var?_cell (g := 5) (by kernel_rfl) h2 0
  rcases hs : Lib.atoiAll s.data.toList with v | _ | _
  · exact absurd hs (h v)
  · exact (Any.strconv_Atoi_syntax Tryz.laysC172 s (by omega) hs _ w c1 (.inr ⟨_, _, rfl⟩)).mono fun e w' ⟨N, he, _, _, hb⟩ => ⟨_, N, he, hb⟩
  · exact (Any.strconv_Atoi_range Tryz.laysC172 s (by omega) hs _ w c2 (.inr ⟨_, _, rfl⟩)).mono fun e w' ⟨N, he, _, _, hb⟩ => ⟨_, N, he, hb⟩
theorem impl_ParseUint (s : ByteArray) (hm : s.size ≤ 1048576) (w : World) (ht : TabOk w) (he : ErrOk w) (hz : 8 ≤ w.heap.size) :
    Calls Tryz.prog 61 #[.string s] w fun e w' => e = .returned (parseR s.data.toList) ∧ Below w.heap.size w w' := by
  by_cases hv : ∃ v, Lib.atoiAll s.data.toList = .ok v
  · obtain ⟨v, hv⟩ := hv
    have Hv := Lib.hid hv
    clear hv
    by_cases h0 : v < 0
    · have hr : parseR s.data.toList = .tuple #[.int .i64 0, .bool false] := parseR_no fun h => by
        have := isNum_atoi h; rw [Hv.out] at this; injection this; omega
      rw [hr]
      go_enter Tryz.func61, Tryz.ntmps61
      go_wp2_with fail
      refine (Atoi_yes s v hm Hv.out w).mono ?_
      rintro e w1 ⟨rfl, hb1⟩
      go_wp2_with fail
      go_ret2
      exact ⟨rfl, hb1⟩
    · by_cases h1 : 1000000000 < v
      · have hr : parseR s.data.toList = .tuple #[.int .i64 0, .bool false] := parseR_no fun h => by
          have := isNum_atoi h; rw [Hv.out] at this; injection this; have := h.1; omega
        rw [hr]
        go_enter Tryz.func61, Tryz.ntmps61
        go_wp2_with fail
        refine (Atoi_yes s v hm Hv.out w).mono ?_
        rintro e w1 ⟨rfl, hb1⟩
        go_wp2_with fail
        go_ret2
        exact ⟨rfl, hb1⟩
      · by_cases h2 : Lib.itoa v = s.data.toList
        · obtain ⟨hn, hd⟩ := isNum_of (by omega) (by omega) h2
          rw [parseR_yes hn, hd]
          have hse : (⟨(Lib.itoa v).toArray⟩ : ByteArray) = s := by apply WideShapes.bytes_inj; simp [h2]
          have Hse := Lib.hid hse
          clear hse h2 hd hn
          go_enter Tryz.func61, Tryz.ntmps61
          go_wp2_with fail
          refine (Atoi_yes s v hm Hv.out w).mono ?_
          rintro e w1 ⟨rfl, hb1⟩
          go_wp2_with fail
          refine (impl_FormatInt v ⟨by omega, by omega⟩ w1 (ht.below hb1 hz)).mono ?_
          rintro e w2 ⟨rfl, hb2⟩
          rw [Hse.out]
          go_wp2_with fail
          go_ret2
          exact ⟨rfl, hb1.trans (hb2.mono hb1.size)⟩
        · have hr : parseR s.data.toList = .tuple #[.int .i64 0, .bool false] := parseR_no fun h => by
            have h3 := isNum_atoi h; rw [Hv.out] at h3; injection h3 with h3
            have := (isNum_iff h.1).1 h
            rw [← h3] at this
            exact h2 this
          rw [hr]
          have hne := str_ne (a := ⟨(Lib.itoa v).toArray⟩) (b := s) (by simpa using h2)
          have Hn := Lib.hid (show inI64 v from ⟨by omega, by omega⟩)
          have cf := impl_FormatInt v Hn.out
          generalize (⟨(Lib.itoa v).toArray⟩ : ByteArray) = t at hne cf
          obtain ⟨n1, n2⟩ := hne
          have Cf := Lib.hid cf
          clear cf h2 hr
          go_enter Tryz.func61, Tryz.ntmps61
          go_wp2_with fail
          refine (Atoi_yes s v hm Hv.out w).mono ?_
          rintro e w1 ⟨rfl, hb1⟩
          go_wp2_with fail
          refine (Cf.out w1 (ht.below hb1 hz)).mono ?_
          rintro e w2 ⟨rfl, hb2⟩
          go_wp2_with fail
          go_ret2
          exact ⟨rfl, hb1.trans (hb2.mono hb1.size)⟩
  · have hr : parseR s.data.toList = .tuple #[.int .i64 0, .bool false] := parseR_no fun h => hv ⟨_, isNum_atoi h⟩
    rw [hr]
    have Hv := Lib.hid (fun v h => hv ⟨v, h⟩ : ∀ v, Lib.atoiAll s.data.toList ≠ .ok v)
    clear hv hr
    go_enter Tryz.func61, Tryz.ntmps61
    go_wp2_with fail
    refine (Atoi_no s hm Hv.out w he).mono ?_
    rintro e w1 ⟨x, N, rfl, hb1⟩
    go_wp2_with fail
    go_ret2
    exact ⟨rfl, hb1⟩
theorem spec_ParseUint_long (s : ByteArray) (hm : s.size ≤ 1048576) (hl : 10 < s.size) (w : World) :
    Calls Tryz.prog 62 #[.string s] w fun e w' => e = .returned (parseR s.data.toList) ∧ Below w.heap.size w w' := by
  have hr : parseR s.data.toList = .tuple #[.int .i64 0, .bool false] := parseR_no fun h => by
    have := (isNum_dig h).2.2; simp at this; omega
  rw [hr]
  go_enter Tryz.func62, Tryz.ntmps62
  go_wp2_with fail
  go_ret2
  exact ⟨rfl, Below.refl _ _⟩
theorem dval_take (s : ByteArray) (k : Nat) (h : k < s.size) : dval 0 (s.data.toList.take (k + 1)) = dval 0 (s.data.toList.take k) * 10 + ((byteAt s k).toNat - 48) := by
  have hl : s.data.toList.length = s.size := by simp
  rw [List.take_succ_eq_append_getElem (by omega), dval_snoc]
  unfold byteAt
  rw [List.getD_eq_getElem?_getD, List.getElem?_eq_getElem (by omega)]
  rfl
theorem dval_small (l : List UInt8) (h : allDig l) : dval 0 l < 10 ^ l.length := by
  have e : ∀ (l : List UInt8) (acc : Nat), allDig l → dval acc l < (acc + 1) * 10 ^ l.length := by
    intro l
    induction l with
    | nil => intro acc _; simp [dval]
    | cons c r ih =>
      intro acc hd
      have hc := hd c (List.mem_cons_self ..)
      have h1 : dval acc (c :: r) = dval (acc * 10 + (c.toNat - 48)) r := rfl
      have h2 := ih (acc * 10 + (c.toNat - 48)) (fun x hx => hd x (List.mem_cons_of_mem _ hx))
      rw [h1, List.length_cons, Nat.pow_succ]
      refine Nat.lt_of_lt_of_le h2 ?_
      have h3 : acc * 10 + (c.toNat - 48) + 1 ≤ (acc + 1) * 10 := by omega
      calc (acc * 10 + (c.toNat - 48) + 1) * 10 ^ r.length ≤ ((acc + 1) * 10) * 10 ^ r.length := Nat.mul_le_mul_right _ h3
        _ = (acc + 1) * (10 ^ r.length * 10) := by rw [Nat.mul_assoc, Nat.mul_comm 10]
  simpa using e l 0 h
theorem spec_ParseUint_any (s : ByteArray) (hm : s.size ≤ 10) (w : World) :
    Calls Tryz.prog 62 #[.string s] w fun e w' => e = .returned (parseR s.data.toList) ∧ Below w.heap.size w w' := by
  go_enter Tryz.func62, Tryz.ntmps62
  go_wp2_with fail
  go_loop [4, 5] (fun a i => ∃ k : Nat, k ≤ s.size ∧ a = .int .i64 ((dval 0 (s.data.toList.take k) : Nat) : Int) ∧ i = .int .i64 k ∧ Hid (allDig (s.data.toList.take k))) (fun _ i => s.size - (intOf i).toNat)
  case atStart => exact ⟨0, Nat.zero_le _, rfl, rfl, fun c hc => by simp at hc⟩
  case round =>
    obtain ⟨k, hk, rfl, rfl, hd⟩ := hrel
    have hsm := dval_small _ hd.out
    have hlen : (s.data.toList.take k).length = k := by simp; omega
    rw [hlen] at hsm
    have hp : 10 ^ k ≤ 10 ^ 10 := Nat.pow_le_pow_right (by omega) (by omega)
    have hsm2 : dval 0 (s.data.toList.take k) ≤ 10000000000 := by omega
    clear hlen hp hsm
    by_cases hlt : k < s.size
    · have ec := byteAt_eq s k hlt
      have hst := dval_take s k hlt
      have hmem : allDig (s.data.toList.take k) → (48 ≤ (byteAt s k).toNat ∧ (byteAt s k).toNat ≤ 57) → allDig (s.data.toList.take (k + 1)) := fun h1 h2 c hc => by
        have hl : s.data.toList.length = s.size := by simp
        rw [List.take_succ_eq_append_getElem (by omega)] at hc
        rcases List.mem_append.1 hc with h | h
        · exact h1 c h
        · rw [List.mem_singleton] at h
          have e : byteAt s k = s.data.toList[k]'(by omega) := by
            unfold byteAt
            rw [List.getD_eq_getElem?_getD, List.getElem?_eq_getElem (by omega)]; rfl
          rw [h, ← e]; exact h2
      have hbad : ¬ (48 ≤ (byteAt s k).toNat ∧ (byteAt s k).toNat ≤ 57) → parseR s.data.toList = .tuple #[.int .i64 0, .bool false] := fun h => parseR_no fun hn => h ((isNum_dig hn).1 _ (by
        unfold byteAt
        rw [List.getD_eq_getElem?_getD, List.getElem?_eq_getElem (by simpa using hlt)]
        exact List.getElem_mem _))
      have Hst := Lib.hid hst
      have Hmem := Lib.hid hmem
      have Hbad := Lib.hid hbad
      clear hst hmem hbad
      generalize byteAt s k = c at ec Hst Hmem Hbad
      generalize dval 0 (s.data.toList.take k) = d at hsm2 Hst
      have hc := c.toNat_lt
      by_cases h1 : c.toNat < 48
      · go_wp2_with fail
        go_ret2
        exact ⟨ret_tup (Hbad.out (by omega)).symm, Below.refl _ _⟩
      · by_cases h2 : 57 < c.toNat
        · go_wp2_with fail
          go_ret2
          exact ⟨ret_tup (Hbad.out (by omega)).symm, Below.refl _ _⟩
        · go_wp2_with fail
          go_round
          case rel => exact ⟨k + 1, by omega, by rw [Hst.out]; congr 1; omega, by go_num, Hmem.out hd.out (by omega)⟩
          case measure => simp [intOf]; omega
    · obtain rfl : k = s.size := by omega
      simp only [take_all] at hd hsm2 ⊢
      have hy := fun (h : isNum s.data.toList) => parseR_yes h
      have hn := fun (h : ¬ isNum s.data.toList) => parseR_no h
      have hi := @isNum_iff s.data.toList
      have hi1 : isNum s.data.toList → dval 0 s.data.toList ≤ 1000000000 := fun h => h.1
      generalize dval 0 s.data.toList = d at *
      have Hy := Lib.hid hy
      have Hn := Lib.hid hn
      have Hi := Lib.hid @hi
      have Hi1 := Lib.hid hi1
      clear hy hn hi hi1
      by_cases hbig : 1000000000 < d
      · have hr := Lib.hid (Hn.out fun h => by have := Hi1.out h; omega)
        go_wp2_with fail
        go_ret2
        exact ⟨ret_tup hr.out.symm, Below.refl _ _⟩
      · have Hf := Lib.hid (show inI64 (d : Int) from ⟨by omega, by omega⟩)
        have cf := spec_FormatInt_any (d : Int) Hf.out w
        by_cases he : Lib.itoa (d : Int) = s.data.toList
        · have hr := Lib.hid (Hy.out ((Hi.out (by omega)).2 he))
          have hse : (⟨(Lib.itoa (d : Int)).toArray⟩ : ByteArray) = s := by apply WideShapes.bytes_inj; simp [he]
          rw [hse] at cf
          have Cf := Lib.hid cf
          clear cf he hse
          go_wp2_with fail
          refine Cf.out.mono ?_
          rintro e w2 ⟨rfl, hb2⟩
          go_wp2_with fail
          go_ret2
          exact ⟨ret_tup hr.out.symm, hb2⟩
        · have hr := Lib.hid (Hn.out fun h => he ((Hi.out (Hi1.out h)).1 h))
          have hne := str_ne (a := ⟨(Lib.itoa (d : Int)).toArray⟩) (b := s) (by simpa using he)
          generalize (⟨(Lib.itoa (d : Int)).toArray⟩ : ByteArray) = t at hne cf
          obtain ⟨n1, n2⟩ := hne
          have Cf := Lib.hid cf
          clear cf he
          go_wp2_with fail
          refine Cf.out.mono ?_
          rintro e w2 ⟨rfl, hb2⟩
          go_wp2_with fail
          go_ret2
          exact ⟨ret_tup hr.out.symm, hb2⟩
end Go.Proofs.YtjclhlicginekaaGreatDoor
