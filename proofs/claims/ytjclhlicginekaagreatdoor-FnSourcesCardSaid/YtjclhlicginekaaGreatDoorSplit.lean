/- SplitFields and its model: the fields of a line. -/
import Derived.Test.YtjclhlicginekaaGreatDoorProg
import Derived.Test.YtjclhlicginekaaGreatDoorDraw
import Derived.Test.YtjclhlicginekaaGreatDoorShelf
namespace Go.Proofs.YtjclhlicginekaaGreatDoor
open Go Go.RowKit
theorem elemStr : Elem Tryz.prog 56 9 1 16 := ⟨Tryz.underlying56, by
  obtain ⟨i, hi, hz, h1, h2⟩ := info_parts (show (Tryz.prog.info? 9).map (fun i => (i.zero, i.size, i.bytes)) = some (some (.string ⟨#[]⟩), 1, 16) by kernel_rfl)
  exact ⟨i, _, hi, hz, h1, h2, rfl⟩, by omega⟩
def closeF (st : List (List UInt8) × List UInt8) : List (List UInt8) := if st.2 = [] then st.1 else st.1 ++ [st.2]
def stepF (st : List (List UInt8) × List UInt8) (c : UInt8) : List (List UInt8) × List UInt8 := if c.toNat = 32 then (closeF st, []) else (st.1, st.2 ++ [c])
def scanF (l : List UInt8) : List (List UInt8) × List UInt8 := l.foldl stepF ([], [])
def fieldsL (l : List UInt8) : List (List UInt8) := closeF (scanF l)
def okB (c : UInt8) : Prop := 32 ≤ c.toNat ∧ c.toNat ≤ 126
def splitOK (l : List UInt8) : Prop := l.length ≤ 600 ∧ (∀ j, j < l.length → okB (l.getD j 0)) ∧ (fieldsL l).length ≤ 24
noncomputable def splitB (l : List UInt8) : Bool := by classical exact decide (splitOK l)
noncomputable def splitF (l : List UInt8) : List (List UInt8) := by classical exact if splitOK l then fieldsL l else []
def strVals (F : List (List UInt8)) : List Value := F.map fun f => .string ⟨f.toArray⟩
def SplitPost (l : List UInt8) (w : World) (e : Ending) (w' : World) : Prop :=
  ∃ v, e = .returned (.tuple #[v, .bool (splitB l)]) ∧ w'.ownsRow w.heap.size 9 1 v (splitF l).length (strVals (splitF l)) ∧ Below w.heap.size w w'
def Appended (T : TypeId) (base : Nat) (ys : List Value) (w : World) (e : Ending) (w' : World) : Prop :=
  ∃ v', e = .returned v' ∧ w'.ownsRow base T 1 v' ys.length ys ∧ Below base w w'
theorem splitF_no {l : List UInt8} (h : ¬ splitOK l) : splitF l = [] ∧ splitB l = false := by
  classical
  exact ⟨by unfold splitF; rw [if_neg h], by unfold splitB; exact decide_eq_false h⟩
theorem splitF_yes {l : List UInt8} (h : splitOK l) : splitF l = fieldsL l ∧ splitB l = true := by
  classical
  exact ⟨by unfold splitF; rw [if_pos h], by unfold splitB; exact decide_eq_true h⟩
theorem split_no {l : List UInt8} {w w' : World} {v : Value} (h : ¬ splitOK l) (hv : w'.ownsRow w.heap.size 9 1 v 0 []) (hb : Below w.heap.size w w') : SplitPost l w (.returned (.tuple #[v, .bool false])) w' := by
  refine ⟨v, by rw [(splitF_no h).2], ?_, hb⟩
  rw [(splitF_no h).1]
  exact hv
theorem split_yes {l : List UInt8} {w w' : World} {v : Value} {n : Nat} (h : splitOK l) (hn : n = (fieldsL l).length) (hv : w'.ownsRow w.heap.size 9 1 v n (strVals (fieldsL l))) (hb : Below w.heap.size w w') : SplitPost l w (.returned (.tuple #[v, .bool true])) w' := by
  subst hn
  refine ⟨v, by rw [(splitF_yes h).2], ?_, hb⟩
  rw [(splitF_yes h).1]
  exact hv
def SplitInv (l : List UInt8) (k st : Nat) (fs : List (List UInt8)) : Prop :=
  scanF (l.take k) = (fs, (l.take k).drop st) ∧ st ≤ k ∧ fs.length ≤ k ∧ ∀ j, j < k → okB (l.getD j 0)
theorem inv_start (l : List UInt8) : SplitInv l 0 0 [] := ⟨rfl, Nat.le_refl _, Nat.le_refl _, fun j hj => by omega⟩
theorem scan_take {l : List UInt8} {k : Nat} (hk : k < l.length) : scanF (l.take (k + 1)) = stepF (scanF (l.take k)) (l.getD k 0) := by
  unfold scanF
  rw [List.take_succ_eq_append_getElem hk, List.foldl_append, List.getD_eq_getElem?_getD, List.getElem?_eq_getElem hk]
  rfl
theorem ok_succ {l : List UInt8} {k : Nat} (h : ∀ j, j < k → okB (l.getD j 0)) (hc : okB (l.getD k 0)) : ∀ j, j < k + 1 → okB (l.getD j 0) := by
  intro j hj
  rcases Nat.lt_or_ge j k with h' | h'
  · exact h j h'
  · obtain rfl : j = k := by omega
    exact hc
theorem drop_take_all {α : Type} (l : List α) (k : Nat) : (l.take k).drop k = [] := by
  apply List.drop_eq_nil_of_le; simp; omega
theorem inv_char {l : List UInt8} {k st : Nat} {fs : List (List UInt8)} (h : SplitInv l k st fs) (hk : k < l.length) (hc : okB (l.getD k 0)) (h32 : (l.getD k 0).toNat ≠ 32) : SplitInv l (k + 1) st fs := by
  obtain ⟨h1, h2, h3, h4⟩ := h
  refine ⟨?_, by omega, by omega, ok_succ h4 hc⟩
  rw [scan_take hk, h1]
  unfold stepF
  rw [if_neg h32]
  have e : (l.take (k + 1)).drop st = (l.take k).drop st ++ [l.getD k 0] := by
    rw [List.take_succ_eq_append_getElem hk, List.drop_append_of_le_length (by simp; omega), List.getD_eq_getElem?_getD, List.getElem?_eq_getElem hk]
    rfl
  rw [e]
theorem inv_space {l : List UInt8} {k st : Nat} {fs : List (List UInt8)} (h : SplitInv l k st fs) (hk : k < l.length) (hc : okB (l.getD k 0)) (h32 : (l.getD k 0).toNat = 32) :
    (st = k → SplitInv l (k + 1) (k + 1) fs) ∧ (st < k → SplitInv l (k + 1) (k + 1) (fs ++ [(l.take k).drop st])) := by
  obtain ⟨h1, h2, h3, h4⟩ := h
  have e : scanF (l.take (k + 1)) = (closeF (fs, (l.take k).drop st), []) := by
    rw [scan_take hk, h1]; unfold stepF; rw [if_pos h32]
  constructor
  · rintro rfl
    refine ⟨?_, Nat.le_refl _, by omega, ok_succ h4 hc⟩
    rw [e, drop_take_all, drop_take_all]
    rfl
  · intro hlt
    refine ⟨?_, Nat.le_refl _, by simp; omega, ok_succ h4 hc⟩
    rw [e, drop_take_all]
    unfold closeF
    rw [if_neg (by
      intro hn
      have := congrArg List.length hn
      simp at this
      omega)]
theorem inv_end {l : List UInt8} {st : Nat} {fs : List (List UInt8)} (h : SplitInv l l.length st fs) :
    (st = l.length → fieldsL l = fs) ∧ (st < l.length → fieldsL l = fs ++ [(l.take l.length).drop st]) := by
  obtain ⟨h1, h2, h3, h4⟩ := h
  have e : fieldsL l = closeF (fs, (l.take l.length).drop st) := by
    unfold fieldsL; rw [← h1, List.take_length]
  constructor
  · rintro rfl
    rw [e, drop_take_all]; rfl
  · intro hlt
    rw [e]
    unfold closeF
    rw [if_neg (by
      intro hn
      have := congrArg List.length hn
      simp at this
      omega)]
theorem extract_eq (s : ByteArray) (a b : Nat) : s.extract a b = ⟨((s.data.toList.take b).drop a).toArray⟩ := by
  apply WideShapes.bytes_inj
  rw [Lib.extract_data]
  simp [List.drop_take]
theorem strVals_snoc (fs : List (List UInt8)) (f : List UInt8) : strVals (fs ++ [f]) = strVals fs ++ [.string ⟨f.toArray⟩] := by simp [strVals]
theorem strVals_length (fs : List (List UInt8)) : (strVals fs).length = fs.length := by simp [strVals]
theorem Clone_any (s : ByteArray) (w : World) (hs : s.size ≤ 281474976710656) :
    Calls Tryz.prog 87 #[.string s] w fun e w' => e = .returned (.string s) ∧ Below w.heap.size w w' := by
  go_enter Tryz.func87, Tryz.ntmps87
  go_wp2_with fail
  refine (Tryz.stringslite_Clone s w hs).mono ?_
  rintro e w1 ⟨rfl, hb⟩
  go_wp2_with fail
  go_ret
  exact ⟨rfl, hb⟩
theorem appendField_no (v : Value) (s : ByteArray) (hs : s.size = 0) (w : World) :
    Calls Tryz.prog 76 #[v, .string s] w fun e w' => e = .returned v ∧ w = w' := by
  have e1 : s.toList.isEmpty = true := by rw [List.isEmpty_iff, Lib.toList_data]; exact List.eq_nil_of_length_eq_zero (by rw [← hs]; simp)
  have e2 : s.toList = [] := by rw [← List.isEmpty_iff]; exact e1
  go_enter Tryz.func76, Tryz.ntmps76
  go_wp2_with fail
  go_ret
  exact ⟨rfl, rfl⟩
theorem appendField_yes (base n : Nat) (v : Value) (xs : List Value) (s : ByteArray) (hs : s.size ≠ 0) (hs2 : s.size ≤ 281474976710656) (w : World) (hown : w.ownsRow base 9 1 v n xs) (hb : base ≤ w.heap.size) (hn : n ≤ 100000) :
    Calls Tryz.prog 76 #[v, .string s] w (Appended 9 base (xs ++ [.string s]) w) := by
  have e1 : s.toList.isEmpty = false := by
    rw [Bool.eq_false_iff]; intro h; rw [List.isEmpty_iff, Lib.toList_data] at h; exact hs (by have h2 := congrArg List.length h; rw [Array.length_toList, List.length_nil] at h2; exact h2)
  have e2 : ¬ s.toList = [] := by rw [← List.isEmpty_iff, e1]; simp
  go_enter Tryz.func76, Tryz.ntmps76
  go_wp2_with fail
  refine (Clone_any s w hs2).mono ?_
  rintro e w1 ⟨rfl, hb1⟩
  have hown1 : w1.ownsRow base 9 1 v n xs := hown.kept (row := none) ⟨hb1.os, hb1.tape, hb1.output, hb1.size, fun k hk _ => hb1.block k hk⟩ (by cases v.ownBlock <;> simp)
  have hsz := hb1.size
  go_wp2_with (first | (at_builtin; refine app_list (e' := 9) elemStr rfl _ _ rfl base v n xs rfl (hown1.alloc _) w1.heap.size 1 1 _ (0, 0) rfl (heap_alloc_new w1 _) rfl (by intro u hu; simp at hu; subst hu; rfl) (by omega) (by unfold maxLen; omega) (by omega) (by simp; omega) (w1.heap.size + 1) (by simp) ?_))
  intro g cap w2 hown2 hgrow hat hgl
  have hb2 : Below base w w2 := below_own ((hb1.mono hb).alloc (by omega) _) (hown1.alloc _) hgrow (Nat.le_refl _) (by simp; omega)
  have Hgrow := Lib.hid hgrow
  clear hgrow
  have hl : xs.length = n := by have := hown.1; omega
  go_wp2_with fail
  go_ret
  exact ⟨_, rfl, by simpa [hl] using hown2, hb2⟩
theorem impl_SplitFields_long (s : ByteArray) (w : World) (hs : 600 < s.size) (hm : s.size ≤ 9223372036854775807) :
    Calls Tryz.prog 59 #[.string s] w (SplitPost s.data.toList w) := by
  go_enter Tryz.func59, Tryz.ntmps59
  go_wp2_with fail
  go_step3
  go_wp2_with fail
  rw [Exit.noGoto_ret]
  go_ret2
  exact split_no (fun h => by have := h.1; simp at this; omega) (World.ownsRow_nil _ _ _ _) (Below.refl _ _)
theorem impl_SplitFields_any (s : ByteArray) (w : World) (hs : s.size ≤ 600) :
    Calls Tryz.prog 59 #[.string s] w (SplitPost s.data.toList w) := by
  have hd : decide ((600 : Int) < (s.size : Int)) = false := by simp; omega
  go_enter Tryz.func59, Tryz.ntmps59
  go_wp2_with fail
  go_step3
  go_wp2_with fail
  go_step3
  go_wp2_with fail
  go_loopw [4, 5, 6] (fun v b i wr => ∃ (k st : Nat) (fs : List (List UInt8)), SplitInv s.data.toList k st fs ∧ k ≤ s.size ∧ st ≤ k ∧ b = .int .i64 st ∧ i = .int .i64 k ∧ wr.ownsRow w.heap.size 9 1 v fs.length (strVals fs) ∧ Below w.heap.size w wr)
    (fun _ _ i _ => s.size - (intOf i).toNat)
  case atStart => exact ⟨0, 0, [], inv_start _, Nat.zero_le _, Nat.le_refl _, rfl, rfl, World.ownsRow_made w #[] 0 (Nat.le_refl _) (by unfold maxLen; omega) rfl, (Below.refl _ _).alloc (Nat.le_refl _) _⟩
  case round =>
    obtain ⟨k, st, fs, inv, hk, hst, rfl, rfl, hown, hb⟩ := hrel
    have hsl : s.data.toList.length = s.size := by simp
    have hsz := hb.size
    have hst0 : (0 : Int) ≤ st := by omega
    have hsk : (st : Int) ≤ k := by omega
    have hks : (k : Int) ≤ s.size := by omega
    have hfk : fs.length ≤ k := inv.2.2.1
    have Inv := Lib.hid inv
    have Hsl := Lib.hid hsl
    clear inv hsl
    by_cases hlt : k < s.size
    · have ec := byteAt_eq s k hlt
      have gc : s.data.toList.getD k 0 = byteAt s k := rfl
      generalize byteAt s k = c at ec gc
      have Gc := Lib.hid gc
      have hc := c.toNat_lt
      clear gc
      by_cases hbad : c.toNat < 32 ∨ 126 < c.toNat
      · have hno : ¬ splitOK s.data.toList := fun h => by
          have := h.2.1 k (by have := Hsl.out; omega)
          rw [Gc.out] at this
          unfold okB at this
          omega
        rcases hbad with h | h
        all_goals
          go_wp2_with fail
          go_ret2
          exact split_no hno (World.ownsRow_nil _ _ _ _) hb
      · have h32 : 32 ≤ c.toNat := by omega
        have h126 : c.toNat ≤ 126 := by omega
        have hok : okB (s.data.toList.getD k 0) := by rw [Gc.out]; exact ⟨h32, h126⟩
        clear hbad
        by_cases hsp : c.toNat = 32
        · obtain ⟨i1, i2⟩ := inv_space Inv.out (by have := Hsl.out; omega) hok (by rw [Gc.out]; exact hsp)
          have I1 := Lib.hid i1
          have I2 := Lib.hid i2
          have hspI : ((c.toNat : Int) == 32) = true := by simp [hsp]
          have hex : (s.extract st k).size = k - st := by simp; omega
          have Hex := Lib.hid hex
          clear hok i1 i2 hsp hex
          by_cases hemp : st = k
          · go_wp2_with fail
            refine (appendField_no _ _ (by first | rfl | (rw [Hex.out]; omega)) _).mono ?_
            rintro e w1 ⟨rfl, rfl⟩
            go_wp2_with fail
            go_roundw
            case rel => exact ⟨k + 1, k + 1, fs, I1.out hemp, by omega, Nat.le_refl _, by go_num, by go_num, hown, hb⟩
            case measure => simp [intOf]; omega
          · have hlt2 : st < k := by omega
            go_wp2_with fail
            refine (appendField_yes w.heap.size fs.length _ _ _ (by rw [Hex.out]; omega) (by rw [Hex.out]; omega) _ hown hsz (by omega)).mono ?_
            rintro e w1 ⟨v1, rfl, hown1, hb1⟩
            have hown2 : w1.ownsRow w.heap.size 9 1 v1 (fs ++ [(s.data.toList.take k).drop st]).length (strVals (fs ++ [(s.data.toList.take k).drop st])) := by
              rw [strVals_snoc, ← extract_eq]
              have e : (fs ++ [(s.data.toList.take k).drop st]).length = (strVals fs ++ [Value.string (s.extract st k)]).length := by simp [strVals]
              rw [e]; exact hown1
            have hb2 := hb.trans hb1
            clear hown1 hb1
            go_wp2_with fail
            go_roundw
            case rel => exact ⟨k + 1, k + 1, _, I2.out hlt2, by omega, Nat.le_refl _, by go_num, by go_num, hown2, hb2⟩
            case measure => simp [intOf]; omega
        · have i1 := inv_char Inv.out (by have := Hsl.out; omega) hok (by rw [Gc.out]; exact hsp)
          have I1 := Lib.hid i1
          have hspI : ((c.toNat : Int) == 32) = false := by simp; omega
          clear hok i1
          go_wp2_with fail
          go_roundw
          case rel => exact ⟨k + 1, st, fs, I1.out, by omega, by omega, rfl, by go_num, hown, hb⟩
          case measure => simp [intOf]; omega
    · obtain rfl : k = s.size := by omega
      have hex : (s.extract st s.size).size = s.size - st := by simp
      have Hex := Lib.hid hex
      clear hex
      have i0 : SplitInv s.data.toList s.data.toList.length st fs := by rw [Hsl.out]; exact Inv.out
      obtain ⟨i1, i2⟩ := inv_end i0
      have I1 := Lib.hid i1
      have I2 := Lib.hid i2
      have I4 := Lib.hid i0.2.2.2
      clear i0 i1 i2
      have hall : (fieldsL s.data.toList).length ≤ 24 → splitOK s.data.toList := fun h => ⟨by rw [Hsl.out]; exact hs, I4.out, h⟩
      by_cases hemp : st = s.size
      · have ef : fieldsL s.data.toList = fs := I1.out (by rw [Hsl.out]; exact hemp)
        have Ef := Lib.hid ef
        have Hall := Lib.hid hall
        clear ef hall
        by_cases h24 : fs.length ≤ 24
        · go_wp2_with fail
          refine (appendField_no _ _ (by first | rfl | (rw [Hex.out]; omega)) _).mono ?_
          rintro e w1 ⟨rfl, rfl⟩
          obtain ⟨A, n, cp, rfl, rfl⟩ := ownsRow_slice hown
          go_wp2_with fail
          go_ret2
          exact split_yes (Hall.out (by rw [Ef.out]; exact h24)) (by rw [Ef.out]) (by rw [Ef.out]; exact hown) hb
        · go_wp2_with fail
          refine (appendField_no _ _ (by first | rfl | (rw [Hex.out]; omega)) _).mono ?_
          rintro e w1 ⟨rfl, rfl⟩
          obtain ⟨A, n, cp, rfl, rfl⟩ := ownsRow_slice hown
          go_wp2_with fail
          go_ret2
          exact split_no (fun h => h24 (by rw [← Ef.out]; exact h.2.2)) (World.ownsRow_nil _ _ _ _) hb
      · have hlt2 : st < s.size := by omega
        have ef : fieldsL s.data.toList = fs ++ [(s.data.toList.take s.size).drop st] := by rw [I2.out (by rw [Hsl.out]; exact hlt2), Hsl.out]
        have Ef := Lib.hid ef
        have Hall := Lib.hid hall
        clear ef hall
        go_wp2_with fail
        refine (appendField_yes w.heap.size fs.length _ _ _ (by rw [Hex.out]; omega) (by rw [Hex.out]; omega) _ hown hsz (by omega)).mono ?_
        rintro e w1 ⟨v1, rfl, hown1, hb1⟩
        have hown2 : w1.ownsRow w.heap.size 9 1 v1 (fs.length + 1) (strVals (fieldsL s.data.toList)) := by
          rw [Ef.out, strVals_snoc, ← extract_eq]
          have e : fs.length + 1 = (strVals fs ++ [Value.string (s.extract st s.size)]).length := by simp [strVals]
          rw [e]; exact hown1
        have hb2 := hb.trans hb1
        have hfl : (fieldsL s.data.toList).length = fs.length + 1 := by rw [Ef.out]; simp
        have Hfl := Lib.hid hfl
        clear hown1 hb1 hfl
        obtain ⟨A, n, cp, rfl, hn⟩ := ownsRow_slice hown2
        subst hn
        by_cases h24 : fs.length + 1 ≤ 24
        · go_wp2_with fail
          go_ret2
          exact split_yes (Hall.out (by rw [Hfl.out]; exact h24)) Hfl.out.symm hown2 hb2
        · go_wp2_with fail
          go_ret2
          exact split_no (fun h => h24 (by rw [← Hfl.out]; exact h.2.2)) (World.ownsRow_nil _ _ _ _) hb2
def SpecInv (l : List UInt8) (k st : Nat) (fs : List (List UInt8)) : Prop :=
  (k ≤ l.length → SplitInv l k st fs) ∧ (k = l.length + 1 → fs = fieldsL l ∧ ∀ j, j < l.length → okB (l.getD j 0)) ∧ k ≤ l.length + 1 ∧ fs.length ≤ k
theorem specInv_in {l : List UInt8} {k st : Nat} {fs : List (List UInt8)} (h : SplitInv l k st fs) (hk : k ≤ l.length) : SpecInv l k st fs :=
  ⟨fun _ => h, fun h' => by omega, by omega, h.2.2.1⟩
theorem specInv_end {l : List UInt8} {st : Nat} {fs : List (List UInt8)} (h : SplitInv l l.length st fs) :
    (st = l.length → SpecInv l (l.length + 1) (l.length + 1) fs) ∧ (st < l.length → SpecInv l (l.length + 1) (l.length + 1) (fs ++ [(l.take l.length).drop st])) := by
  obtain ⟨e1, e2⟩ := inv_end h
  have h4 := h.2.2.2
  have h3 := h.2.2.1
  exact ⟨fun hs => ⟨fun h' => by omega, fun _ => ⟨(e1 hs).symm, h4⟩, Nat.le_refl _, by omega⟩, fun hs => ⟨fun h' => by omega, fun _ => ⟨(e2 hs).symm, h4⟩, Nat.le_refl _, by simp; omega⟩⟩
theorem spec_SplitFields_long (s : ByteArray) (w : World) (hs : 600 < s.size) (hm : s.size ≤ 9223372036854775807) :
    Calls Tryz.prog 42 #[.string s] w (SplitPost s.data.toList w) := by
  go_enter Tryz.func42, Tryz.ntmps42
  go_wp2_with fail
  go_ret2
  exact split_no (fun h => by have := h.1; simp at this; omega) (World.ownsRow_made w #[] 0 (Nat.le_refl _) (by unfold maxLen; omega) rfl) ((Below.refl _ _).alloc (Nat.le_refl _) _)
theorem spec_SplitFields_any (s : ByteArray) (w : World) (hs : s.size ≤ 600) :
    Calls Tryz.prog 42 #[.string s] w (SplitPost s.data.toList w) := by
  have hd : decide ((600 : Int) < (s.size : Int)) = false := by simp; omega
  go_enter Tryz.func42, Tryz.ntmps42
  go_wp2_with fail
  go_loopw [4, 5, 6] (fun v b i wr => ∃ (k st : Nat) (fs : List (List UInt8)), SpecInv s.data.toList k st fs ∧ k ≤ s.size + 1 ∧ b = .int .i64 st ∧ i = .int .i64 k ∧ wr.ownsRow w.heap.size 9 1 v fs.length (strVals fs) ∧ Below w.heap.size w wr)
    (fun _ _ i _ => s.size + 1 - (intOf i).toNat)
  case atStart => exact ⟨0, 0, [], specInv_in (inv_start _) (Nat.zero_le _), Nat.zero_le _, rfl, rfl, World.ownsRow_made w #[] 0 (Nat.le_refl _) (by unfold maxLen; omega) rfl, (Below.refl _ _).alloc (Nat.le_refl _) _⟩
  case round =>
    obtain ⟨k, st, fs, inv, hk, rfl, rfl, hown, hb⟩ := hrel
    have hsl : s.data.toList.length = s.size := by simp
    have hsz := hb.size
    have hfk : fs.length ≤ k := inv.2.2.2
    by_cases hle : k ≤ s.size
    · have inv1 := inv.1 (by omega)
      have hst : st ≤ k := inv1.2.1
      have hst0 : (0 : Int) ≤ st := by omega
      have hsk : (st : Int) ≤ k := by omega
      have hks : (k : Int) ≤ s.size := by omega
      have Inv := Lib.hid inv1
      have Hsl := Lib.hid hsl
      clear inv inv1 hsl
      by_cases hlt : k < s.size
      · have ec := byteAt_eq s k hlt
        have gc : s.data.toList.getD k 0 = byteAt s k := rfl
        generalize byteAt s k = c at ec gc
        have Gc := Lib.hid gc
        have hc := c.toNat_lt
        clear gc
        by_cases hbad : c.toNat < 32 ∨ 126 < c.toNat
        · have hno : ¬ splitOK s.data.toList := fun h => by
            have := h.2.1 k (by have := Hsl.out; omega)
            rw [Gc.out] at this
            unfold okB at this
            omega
          rcases hbad with h | h
          all_goals
            go_wp2_with fail
            go_ret2
            exact split_no hno (World.ownsRow_made wr #[] 0 hsz (by unfold maxLen; omega) rfl) (hb.alloc hsz _)
        · have h32 : 32 ≤ c.toNat := by omega
          have h126 : c.toNat ≤ 126 := by omega
          have hok : okB (s.data.toList.getD k 0) := by rw [Gc.out]; exact ⟨h32, h126⟩
          clear hbad
          by_cases hsp : c.toNat = 32
          · obtain ⟨i1, i2⟩ := inv_space Inv.out (by have := Hsl.out; omega) hok (by rw [Gc.out]; exact hsp)
            have I1 := Lib.hid i1
            have I2 := Lib.hid i2
            have hspI : ((c.toNat : Int) == 32) = true := by simp [hsp]
            have hspJ : ((c.toNat : Int) != 32) = false := by simp [hsp]
            clear hok i1 i2 hsp
            by_cases hemp : st < k
            · go_wp2_with (first | (at_builtin; refine app_list (e' := 9) elemStr rfl _ _ rfl w.heap.size _ fs.length (strVals fs) rfl (hown.alloc _) wr.heap.size 1 1 _ (0, 0) rfl (heap_alloc_new wr _) rfl (by intro u hu; simp at hu; subst hu; rfl) (by omega) (by unfold maxLen; omega) (by omega) (by simp; omega) (wr.heap.size + 1) (by simp) ?_))
              intro g cap w1 hown1 hgrow hat hgl
              have hown2 := hown1
              rw [show strVals fs ++ (#[Value.string (s.extract st k)] : Array Value).toList = strVals (fs ++ [(s.data.toList.take k).drop st]) by rw [strVals_snoc, ← extract_eq], show fs.length + 1 = (fs ++ [(s.data.toList.take k).drop st]).length by simp] at hown2
              have hb2 : Below w.heap.size w w1 := below_own (hb.alloc hsz _) (hown.alloc _) hgrow (Nat.le_refl _) (by simp; omega)
              have Hown2 := Lib.hid hown2
              clear hown1 hgrow hown2
              go_wp2_with fail
              go_roundw
              case rel => exact ⟨k + 1, k + 1, _, specInv_in (I2.out hemp) (by have := Hsl.out; omega), by omega, by go_num, by go_num, by simpa using Hown2.out, hb2⟩
              case measure => simp [intOf]; omega
            · have hse : st = k := by omega
              have Hse := Lib.hid hse
              clear hse
              go_wp2_with fail
              go_roundw
              case rel => exact ⟨k + 1, k + 1, fs, specInv_in (I1.out Hse.out) (by have := Hsl.out; omega), by omega, by go_num, by go_num, hown, hb⟩
              case measure => simp [intOf]; omega
          · have i1 := inv_char Inv.out (by have := Hsl.out; omega) hok (by rw [Gc.out]; exact hsp)
            have I1 := Lib.hid i1
            have hspI : ((c.toNat : Int) == 32) = false := by simp; omega
            have hspJ : ((c.toNat : Int) != 32) = true := by simp; omega
            clear hok i1
            go_wp2_with fail
            go_roundw
            case rel => exact ⟨k + 1, st, fs, specInv_in I1.out (by have := Hsl.out; omega), by omega, rfl, by go_num, hown, hb⟩
            case measure => simp [intOf]; omega
      · have hkk : k = s.size := by omega
        have i0 : SplitInv s.data.toList s.data.toList.length st fs := by rw [Hsl.out, ← hkk]; exact Inv.out
        obtain ⟨i1, i2⟩ := specInv_end i0
        rw [Hsl.out, ← hkk] at i1 i2
        have I1 := Lib.hid i1
        have I2 := Lib.hid i2
        have Hkk := Lib.hid hkk
        clear i0 i1 i2 hkk
        by_cases hemp : st < k
        · go_wp2_with (first | (at_builtin; refine app_list (e' := 9) elemStr rfl _ _ rfl w.heap.size _ fs.length (strVals fs) rfl (hown.alloc _) wr.heap.size 1 1 _ (0, 0) rfl (heap_alloc_new wr _) rfl (by intro u hu; simp at hu; subst hu; rfl) (by omega) (by unfold maxLen; omega) (by omega) (by simp; omega) (wr.heap.size + 1) (by simp) ?_))
          intro g cap w1 hown1 hgrow hat hgl
          have hown2 := hown1
          rw [show strVals fs ++ (#[Value.string (s.extract st k)] : Array Value).toList = strVals (fs ++ [(s.data.toList.take k).drop st]) by rw [strVals_snoc, ← extract_eq], show fs.length + 1 = (fs ++ [(s.data.toList.take k).drop st]).length by simp] at hown2
          have hb2 : Below w.heap.size w w1 := below_own (hb.alloc hsz _) (hown.alloc _) hgrow (Nat.le_refl _) (by simp; omega)
          have Hown2 := Lib.hid hown2
          clear hown1 hgrow hown2
          go_wp2_with fail
          go_roundw
          case rel => exact ⟨k + 1, k + 1, _, I2.out hemp, by have := Hkk.out; omega, by go_num, by go_num, by simpa using Hown2.out, hb2⟩
          case measure => simp [intOf]; omega
        · have hse : st = k := by omega
          have Hse := Lib.hid hse
          clear hse
          go_wp2_with fail
          go_roundw
          case rel => exact ⟨k + 1, k + 1, fs, I1.out Hse.out, by have := Hkk.out; omega, by go_num, by go_num, hown, hb⟩
          case measure => simp [intOf]; omega
    · have hkk : k = s.size + 1 := by omega
      obtain ⟨ef, hok⟩ := inv.2.1 (by omega)
      have Hall := Lib.hid (fun h => (⟨by rw [hsl]; exact hs, hok, h⟩ : splitOK s.data.toList))
      have Ef := Lib.hid ef
      clear inv hok ef hkk hsl
      obtain ⟨A, n, cp, rfl, hn⟩ := ownsRow_slice hown
      subst hn
      by_cases h24 : fs.length ≤ 24
      · go_wp2_with fail
        go_ret2
        exact split_yes (Hall.out (by rw [← Ef.out]; exact h24)) (by rw [← Ef.out]) (by rw [← Ef.out]; exact hown) hb
      · go_wp2_with fail
        go_ret2
        exact split_no (fun h => h24 (by rw [Ef.out]; exact h.2.2)) (World.ownsRow_made wr #[] 0 hsz (by unfold maxLen; omega) rfl) (hb.alloc hsz _)
end Go.Proofs.YtjclhlicginekaaGreatDoor
