/- The program's text of a statement. -/
import Derived.Test.YtjclhlicginekaaGreatDoorProg
import Derived.Test.YtjclhlicginekaaGreatDoorSrcH
import Derived.Test.YtjclhlicginekaaGreatDoorNum
import Derived.Test.YtjclhlicginekaaGreatDoorPost
import Derived.Test.YtjclhlicginekaaGreatDoorBlk
namespace Go.Proofs.YtjclhlicginekaaGreatDoor
open Go Go.RowKit Go.Maps
/-- The text behind k arguments. -/
def fmtPre (s : St) (k : Nat) : List UInt8 := wordL s.op.toNat ++ (((argsN s.op.toNat).take k).map (argT s)).flatMap (fun f => 32 :: f)
theorem fmtPre_zero (s : St) : fmtPre s 0 = wordL s.op.toNat := by simp [fmtPre]
theorem fmtPre_all (s : St) : fmtPre s (argsN s.op.toNat).length = fmtL s := by unfold fmtPre fmtL; rw [List.take_length]
theorem fmtPre_step (s : St) (k : Nat) (h : k < (argsN s.op.toNat).length) : fmtPre s (k + 1) = fmtPre s k ++ (32 :: argT s ((argsN s.op.toNat).getD k 0)) := by
  unfold fmtPre
  rw [List.take_succ_eq_append_getElem h, List.map_append, List.flatMap_append, List.append_assoc, List.getD_eq_getElem?_getD, List.getElem?_eq_getElem h]
  simp
theorem fmtPre_len {s : St} (h : s.ok) (k : Nat) : (fmtPre s k).length ≤ 21 := by
  have h1 := word_good _ (opN_range h).1 (opN_range h).2
  have h2 := flat_len (((argsN s.op.toNat).take k).map (argT s)) 3 fun f hf => by
    obtain ⟨k, _, rfl⟩ := List.mem_map.1 hf
    exact (arg_good h k).2
  have h3 := args_len s.op.toNat
  have h4 : ((argsN s.op.toNat).take k).length ≤ 4 := by rw [List.length_take]; omega
  rw [List.length_map] at h2
  unfold fmtPre
  rw [List.length_append]
  omega
theorem args_small (op j : Nat) : (argsN op).getD j 0 ≤ 5 := by
  have h : ∀ x, x ∈ argsN op → x ≤ 5 := by
    unfold argsN
    repeat' split
    all_goals decide
  rw [List.getD_eq_getElem?_getD]
  cases he : (argsN op)[j]? with
  | none => simp
  | some x => exact h x (List.mem_of_getElem? he)
/-- A box of a statement. -/
def BoxSt (w : World) (g : Nat) (s : St) : Prop := w.heap[g]? = some (.cells #[.int .i64 s.op, .int .i64 s.d, .int .i64 s.a, .int .i64 s.b, .int .i64 s.c, .int .i64 s.n] 34 (0, 0))
theorem BoxSt.below {w w' : World} {B g : Nat} {s : St} (h : BoxSt w g s) (hb : Below B w w') (hg : g < B) : BoxSt w' g s := (hb.block g hg).trans h
theorem BoxSt.fld {w : World} {g : Nat} {s : St} (h : BoxSt w g s) (k : Nat) : w.cell? ⟨g, fldC k, none⟩ = some (.int .i64 (fldI k s)) := by
  refine (blk h ?_).1
  unfold fldC fldI
  split
  · rfl
  · split
    · rfl
    · split
      · rfl
      · split
        · rfl
        · rfl
theorem cat_bytes (t : ByteArray) (m n : List UInt8) : (t ++ (({ data := #[32] } : ByteArray) ++ ⟨m.toArray⟩ ++ ⟨n.toArray⟩)).data.toList = t.data.toList ++ (32 :: (m ++ n)) := by simp
theorem str_size (t : ByteArray) : t.size = t.data.toList.length := by simp
set_option maxRecDepth 100000 in
set_option maxHeartbeats 1000000 in
theorem formatWith_any (B : Nat) (op d a b c n : Int) (w : World) (hs : St.ok ⟨op, d, a, b, c, n⟩) (hf : Forms B w) (ht : TabOk w) (hz : 8 ≤ w.heap.size) :
    Calls Tryz.prog 23 #[.map (some (B + 1)), .agg #[.int .i64 op, .int .i64 d, .int .i64 a, .int .i64 b, .int .i64 c, .int .i64 n]] w fun e w' => e = .returned (.string ⟨(fmtL ⟨op, d, a, b, c, n⟩).toArray⟩) ∧ Below w.heap.size w w' := by
  obtain ⟨o1, o2⟩ := opN_range hs
  have o3 := op_range hs
  simp only at o1 o2 o3
  obtain ⟨u, rfl⟩ : ∃ u : Nat, op = (u : Int) := Int.eq_ofNat_of_zero_le (by omega)
  simp only [Int.toNat_natCast] at o1 o2
  have hbox : BoxSt (w.alloc (.cells #[.int .i64 u, .int .i64 d, .int .i64 a, .int .i64 b, .int .i64 c, .int .i64 n] 34)) w.heap.size ⟨u, d, a, b, c, n⟩ := heap_alloc_new w _
  have hop := (blk (i := 0) hbox rfl).1
  have hlow := (Below.refl w.heap.size w).alloc (Nat.le_refl _) (.cells #[.int .i64 u, .int .i64 d, .int .i64 a, .int .i64 b, .int .i64 c, .int .i64 n] 34)
  have hsz := World.size_alloc w (.cells #[.int .i64 u, .int .i64 d, .int .i64 a, .int .i64 b, .int .i64 c, .int .i64 n] 34)
  have hfd : ∀ (x : Int) (A : Option Addr) (n : Nat) (w : World), (Instr.field 77 (.agg #[.int .i64 x, .slice A n n]) 1).run Tryz.prog w = .ok (.slice A n n) w := fun _ _ _ _ => by kernel_rfl
  go_enter Tryz.func23, Tryz.ntmps23
  go_wp2_with fail
  refine (wordOf_any B u o1 o2 _ (hf.below (below_alloc w _))).mono ?_
  rintro e w1 ⟨rfl, hb1⟩
  have hb0 := hlow.trans (hb1.mono (by omega))
  have hf1 := hf.below hb0
  have hbx1 := hbox.below hb1 (by omega)
  have hsz1 := hb1.size
  obtain ⟨hlk, -⟩ := hf1.look (s := ⟨(wordL u).toArray⟩) o1 o2 (by simp)
  rw [show formV B u = .agg #[.int .i64 (u : Int), .slice (argP B u) (argsN u).length (argsN u).length] by unfold formV; rw [argV_is B u o2]] at hlk
  obtain ⟨T, hT⟩ : ∃ T : ByteArray, T = ⟨(wordL u).toArray⟩ := ⟨_, rfl⟩
  have hT2 : T.data.toList = fmtPre ⟨u, d, a, b, c, n⟩ 0 := by rw [hT, fmtPre_zero]; simp
  obtain ⟨A, hA⟩ : ∃ A, argP B u = A := ⟨_, rfl⟩
  have L4 := args_len u
  rw [hA] at hlk
  rw [← hT] at hlk ⊢
  have hlen : ((argsN u).length : Int) ≤ 4 := by omega
  have HA := Lib.hid hA
  have Hb0 := Lib.hid hb0
  clear hT hA hb0 hop hb1
  obtain ⟨M, hM⟩ : ∃ M, (argsN u).length = M := ⟨_, rfl⟩
  rw [hM] at hlen hlk L4
  have HM := Lib.hid hM
  have Hfd := hfd
  have HT := Lib.hid hT2
  clear hT2 hM
  go_wp2_with fail
  go_loopw [5, 17] (fun t i wr => ∃ (k : Nat) (T : ByteArray), k ≤ M ∧ t = .string T ∧ i = .int .i64 k ∧ Hid (T.data.toList = fmtPre ⟨u, d, a, b, c, n⟩ k) ∧ Below (w.heap.size + 1) w1 wr) (fun _ i _ => M - (intOf i).toNat)
  case atStart => exact ⟨0, T, Nat.zero_le _, rfl, rfl, HT, Below.refl _ _⟩
  case round =>
    obtain ⟨k, T, hk, rfl, rfl, hT, hb⟩ := hrel
    have hbw := Hb0.out.trans (hb.mono (by omega))
    have hfw := hf.below hbw
    have hbx := hbx1.below hb (by omega)
    have hsz2 := hbw.size
    have hsz3 := hb.size
    by_cases hlt : k < M
    · obtain ⟨b', o', eA, hbl, hc⟩ := hfw.at_ (op := u) (j := k) o2 (by rw [HM.out]; exact hlt)
      rw [HA.out] at eA
      subst eA
      have hst := fmtPre_step ⟨u, d, a, b, c, n⟩ k (by show k < (argsN u).length; rw [HM.out]; exact hlt)
      simp only [Int.toNat_natCast] at hst
      have hq5 := args_small u k
      generalize (argsN u).getD k 0 = q at hc hst hq5
      have hfl := hbx.fld q
      obtain ⟨x0, x1⟩ := fld_range hs q
      have hag : argT ⟨u, d, a, b, c, n⟩ q = markL q ++ Lib.itoa (fldI q ⟨u, d, a, b, c, n⟩) := rfl
      generalize fldI q ⟨u, d, a, b, c, n⟩ = x at hfl x0 x1 hag
      have hts : T.size ≤ 21 := by rw [str_size, hT.out]; exact fmtPre_len hs k
      have hi := itoa_len x0 x1
      have hm1 : (markL q).length ≤ 1 := by unfold markL; repeat' split
                                            all_goals simp
      have Hst := Lib.hid (show ∀ t : ByteArray, t = T ++ (({ data := #[32] } : ByteArray) ++ ⟨(markL q).toArray⟩ ++ ⟨(Lib.itoa x).toArray⟩) → t.data.toList = fmtPre ⟨u, d, a, b, c, n⟩ (k + 1) from fun t e => by rw [e, cat_bytes, hT.out, hst, hag])
      have cf := fun w' (h : Below w.heap.size w w') => impl_FormatInt x ⟨by omega, by omega⟩ w' (ht.below h hz)
      obtain ⟨md, hmd⟩ : ∃ md : ByteArray, (⟨(markL q).toArray⟩ : ByteArray) = md := ⟨_, rfl⟩
      obtain ⟨dg, hdg⟩ : ∃ dg : ByteArray, (⟨(Lib.itoa x).toArray⟩ : ByteArray) = dg := ⟨_, rfl⟩
      have m1 : md.size ≤ 1 := by rw [← hmd]; show (markL q).toArray.size ≤ 1; simpa using hm1
      have d1 : dg.size ≤ 2 := by rw [← hdg]; show (Lib.itoa x).toArray.size ≤ 2; simpa using hi
      have cm := mark_any q hq5 wr
      rw [hmd] at Hst cm
      rw [hdg] at Hst cf
      have Cf := Lib.hid cf
      have Hbw := Lib.hid hbw
      have k0 : (0 : Int) ≤ k := by omega
      have k1 : (k : Int) < M := by omega
      clear hst hag hmd hdg hi hm1 hT hbx hfw cf hbw
      go_wp2_with fail
      refine cm.mono ?_
      rintro e w2 ⟨rfl, rfl⟩
      clear cm
      go_wp2_with fail
      refine (field_any q hq5 _ _).mono ?_
      rintro e w3 ⟨rfl, rfl⟩
      go_wp2_with fail
      refine (Cf.out _ Hbw.out).mono ?_
      rintro e w4 ⟨rfl, hb4⟩
      have hb5 := hb.trans (hb4.mono (by omega))
      clear Cf hc hfl
      go_wp2_with fail
      go_roundw
      case rel => exact ⟨k + 1, _, by omega, rfl, by go_num, Hst.out _ rfl, hb5⟩
      case measure => simp [intOf]; omega
    · obtain rfl : k = M := by omega
      have hfin : T = ⟨(fmtL ⟨u, d, a, b, c, n⟩).toArray⟩ := by
        apply WideShapes.bytes_inj
        rw [hT.out, ← HM.out]
        exact fmtPre_all ⟨u, d, a, b, c, n⟩
      have hbw := Hb0.out.trans (hb.mono (by omega))
      clear hT
      subst hfin
      go_wp2_with fail
      go_ret
      exact ⟨rfl, hbw⟩
end Go.Proofs.YtjclhlicginekaaGreatDoor
