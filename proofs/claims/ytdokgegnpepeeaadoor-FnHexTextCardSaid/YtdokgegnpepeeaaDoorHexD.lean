/- DecodeHex and its model return the same text and the same verdict. -/
import Derived.Test.YtdokgegnpepeeaaDoorProg
import Derived.Test.YtdokgegnpepeeaaDoorHex
import Derived.Test.YtdokgegnpepeeaaDoorShelf
namespace Go.Proofs.YtdokgegnpepeeaaDoor
open Go Go.RowKit
def hvI (c : Int) : Int := if 48 ≤ c ∧ c ≤ 57 then c - 48 else if 97 ≤ c ∧ c ≤ 102 then c - 87 else -1
theorem hvI_le (c : Int) : hvI c ≤ 15 ∧ -1 ≤ hvI c := by unfold hvI; split <;> (try split) <;> omega
def pairB (a b : UInt8) : UInt8 := UInt8.ofNat (16 * hvI (a.toNat : Int) + hvI (b.toNat : Int)).toNat
def goodP (l : List UInt8) (j : Nat) : Prop := 0 ≤ hvI ((l.getD (2 * j) 0).toNat : Int) ∧ 0 ≤ hvI ((l.getD (2 * j + 1) 0).toNat : Int)
instance (l : List UInt8) (j : Nat) : Decidable (goodP l j) := by unfold goodP; exact inferInstance
def decL (l : List UInt8) (k : Nat) : List UInt8 := (List.range k).map fun j => pairB (l.getD (2 * j) 0) (l.getD (2 * j + 1) 0)
theorem decL_succ (l : List UInt8) (k : Nat) : decL l (k + 1) = decL l k ++ [pairB (l.getD (2 * k) 0) (l.getD (2 * k + 1) 0)] := by
  unfold decL; rw [List.range_succ, List.map_append]; rfl
theorem decL_length (l : List UInt8) (k : Nat) : (decL l k).length = k := by simp [decL]
/-- The answer of DecodeHex. -/
def decR (l : List UInt8) : Value :=
  if l.length % 2 = 0 ∧ l.length ≤ 40000 ∧ ∀ j, j < l.length / 2 → goodP l j then .tuple #[.string ⟨(decL l (l.length / 2)).toArray⟩, .bool true] else .tuple #[.string ⟨#[]⟩, .bool false]
theorem decR_no {l : List UInt8} (h : l.length % 2 ≠ 0 ∨ 40000 < l.length ∨ ∃ j, j < l.length / 2 ∧ ¬ goodP l j) : Value.tuple #[.string ⟨#[]⟩, .bool false] = decR l := by
  unfold decR
  rw [if_neg]
  rintro ⟨h1, h2, h3⟩
  rcases h with h | h | ⟨j, hj, h⟩
  · exact h h1
  · omega
  · exact h (h3 j hj)
theorem decR_yes {l : List UInt8} (h1 : l.length % 2 = 0) (h2 : l.length ≤ 40000) (h3 : ∀ j, j < l.length / 2 → goodP l j) : Value.tuple #[.string ⟨(decL l (l.length / 2)).toArray⟩, .bool true] = decR l := by
  unfold decR
  rw [if_pos ⟨h1, h2, h3⟩]
theorem index_hv : ∀ c : Fin 256, Lib.indexByte [48, 49, 50, 51, 52, 53, 54, 55, 56, 57, 97, 98, 99, 100, 101, 102] (UInt8.ofNat c.val) = hvI (c.val : Int) := by decide +kernel
theorem index_hv' (c : UInt8) : Lib.indexByte (({ data := #[48, 49, 50, 51, 52, 53, 54, 55, 56, 57, 97, 98, 99, 100, 101, 102] } : ByteArray)).data.toList ((c.toNat : Int)).toNat.toUInt8 = hvI (c.toNat : Int) := by
  have h := index_hv ⟨c.toNat, c.toNat_lt⟩
  simpa using h
theorem IndexByte_hv (c : UInt8) (w : World) :
    Calls Tryd.prog 27 #[.string { data := #[48, 49, 50, 51, 52, 53, 54, 55, 56, 57, 97, 98, 99, 100, 101, 102] }, .int .u8 (c.toNat : Int)] w fun e w' => e = .returned (.int .i64 (hvI (c.toNat : Int))) ∧ w = w' :=
  (Tryd.strings_IndexByte _ _ w).mono fun e w' ⟨he, hw⟩ => ⟨by rw [he, index_hv'], hw.symm⟩

theorem dec_step {w' : World} {B : Nat} {e : TypeId} {v : Value} {k : Nat} {l : List UInt8} {a b : UInt8} {x : Int} (hown : w'.ownsRow B e 1 v (k + 1) (byteVals (decL l k) ++ [.int .u8 x]))
    (ha : l.getD (2 * k) 0 = a) (hb : l.getD (2 * k + 1) 0 = b) (h0 : 0 ≤ hvI (a.toNat : Int)) (h1 : 0 ≤ hvI (b.toNat : Int)) (hx : x = 16 * hvI (a.toNat : Int) + hvI (b.toNat : Int)) :
    w'.ownsRow B e 1 v (k + 1) (byteVals (decL l (k + 1))) := by
  have e1 : byteVals (decL l (k + 1)) = byteVals (decL l k) ++ [.int .u8 x] := by
    rw [decL_succ, byteVals_append, ha, hb]
    congr 1
    have h2 := (hvI_le (a.toNat : Int)).1
    have h3 := (hvI_le (b.toNat : Int)).1
    simp only [byteVals, List.map_cons, List.map_nil, pairB]
    rw [UInt8.toNat_ofNat']
    congr 2
    subst hx
    generalize hvI (a.toNat : Int) = p at *
    generalize hvI (b.toNat : Int) = q at *
    omega
  rw [e1]; exact hown
theorem good_step {l : List UInt8} {k : Nat} {a b : UInt8} (h : ∀ j, j < k → goodP l j) (ha : l.getD (2 * k) 0 = a) (hb : l.getD (2 * k + 1) 0 = b) (h0 : 0 ≤ hvI (a.toNat : Int)) (h1 : 0 ≤ hvI (b.toNat : Int)) :
    ∀ j, j < k + 1 → goodP l j := by
  intro j hj
  rcases Nat.lt_or_ge j k with h' | h'
  · exact h j h'
  · obtain rfl : j = k := by omega
    unfold goodP
    rw [ha, hb]
    exact ⟨h0, h1⟩
theorem bad_here {s : ByteArray} {k : Nat} {a b : UInt8} (hk : 2 * k + 1 < s.size) (ha : s.data.toList.getD (2 * k) 0 = a) (hb : s.data.toList.getD (2 * k + 1) 0 = b) (h : hvI (a.toNat : Int) < 0 ∨ hvI (b.toNat : Int) < 0) :
    Value.tuple #[.string ⟨#[]⟩, .bool false] = decR s.data.toList :=
  decR_no (.inr (.inr ⟨k, by have e : s.data.toList.length = s.size := by simp
                             omega, fun hg => by
    unfold goodP at hg
    rw [ha, hb] at hg
    omega⟩))
theorem decR_end {s : ByteArray} {k : Nat} (hk : 2 * k = s.size) (h2 : s.size ≤ 40000) (h : ∀ j, j < k → goodP s.data.toList j) : Value.tuple #[.string ⟨(decL s.data.toList k).toArray⟩, .bool true] = decR s.data.toList := by
  have e : s.data.toList.length = s.size := by simp
  have e2 : s.data.toList.length / 2 = k := by omega
  rw [← decR_yes (l := s.data.toList) (by omega) (by omega) (by rw [e2]; exact h), e2]
theorem decR_odd {s : ByteArray} (h : s.size % 2 ≠ 0 ∨ 40000 < s.size) : Value.tuple #[.string ⟨#[]⟩, .bool false] = decR s.data.toList := by
  have e : s.data.toList.length = s.size := by simp
  exact decR_no (by rw [e]; rcases h with h | h; exact .inl h; exact .inr (.inl h))


theorem impl_DecodeHex_any (s : ByteArray) (w : World) (hm : s.size ≤ 1048576) :
    Calls Tryd.prog 12 #[.string s] w fun e w' => e = .returned (decR s.data.toList) ∧ Below w.heap.size w w' := by
  by_cases hodd : s.size % 2 ≠ 0
  · have o1 : ((s.size : Int) % 2 == 0) = false := by simp; omega
    have o2 : ((s.size : Int) % 2 != 0) = true := by simp; omega
    by_cases hbig : 40000 < s.size
    all_goals
      go_enter Tryd.func12, Tryd.ntmps12
      go_wp2_with fail
      go_ret2
      exact ⟨ret_tup (decR_odd (.inl hodd)), Below.refl _ _⟩
  · have o1 : ((s.size : Int) % 2 == 0) = true := by simp; omega
    have o2 : ((s.size : Int) % 2 != 0) = false := by simp; omega
    by_cases hbig : 40000 < s.size
    · go_enter Tryd.func12, Tryd.ntmps12
      go_wp2_with fail
      go_ret2
      exact ⟨ret_tup (decR_odd (.inr hbig)), Below.refl _ _⟩
    · have hd : decide ((40000 : Int) < (s.size : Int)) = false := by simp; omega
      have hev : s.size % 2 = 0 := by omega
      have Hbig := Lib.hid hbig
      have Hev := Lib.hid hev
      clear hodd hbig hev
      go_enter Tryd.func12, Tryd.ntmps12
      go_wp2_with (first | (refine make_list elemU8 rfl _ _ rfl w.heap.size _ _ _ (s.size / 2) rfl rfl (by omega) (by omega) (by unfold maxLen; omega) (Nat.le_refl _) ?_))
      intro w1 hown1 hg1
      have hb1 : Below w.heap.size w w1 := (Below.refl _ _).grown hg1 (Nat.le_refl _) (fun k h => by cases h)
      generalize Value.slice (some { block := w.heap.size, off := 0 }) 0 (s.size / 2) = v0 at hown1 ⊢
      have Hhg := Lib.hid hg1; clear hg1
      go_wp2_with fail
      go_loopw [4, 5] (fun v i wr => ∃ n : Nat, (∃ k : Nat, n = 2 * k ∧ wr.ownsRow w.heap.size 5 1 v k (byteVals (decL s.data.toList k)) ∧ (∀ j, j < k → goodP s.data.toList j) ∧ Below w.heap.size w wr) ∧ n ≤ s.size ∧ i = .int .i64 n) (fun _ i _ => s.size - (intOf i).toNat)
      case atStart => exact ⟨0, ⟨0, rfl, hown1, fun j hj => by omega, hb1⟩, Nat.zero_le _, rfl⟩
      case round =>
        obtain ⟨i, ⟨k, hik, hown, hgood, hb⟩, hi, rfl⟩ := hrel
        have Hgood := Lib.hid hgood
        have Hik := Lib.hid hik
        clear hgood
        by_cases hlt : i < s.size
        · have hi1 : i + 1 < s.size := by have := Hev.out; omega
          have hi0 : (0 : Int) ≤ i := by omega
          have hsz := hb.size
          have ea := byteAt_eq s i hlt
          have eb := byteAt_eq s (i + 1) hi1
          have ga : s.data.toList.getD (2 * k) 0 = byteAt s i := by rw [← hik]; rfl
          have gb : s.data.toList.getD (2 * k + 1) 0 = byteAt s (i + 1) := by rw [← hik]; rfl
          generalize byteAt s i = a at ea ga
          generalize byteAt s (i + 1) = b at eb gb
          have Ga := Lib.hid ga
          have Gb := Lib.hid gb
          clear ga gb hik
          have la := (hvI_le (a.toNat : Int)).1
          have lb := (hvI_le (b.toNat : Int)).1
          go_wp2_with fail
          refine (IndexByte_hv a _).mono ?_
          rintro e w1 ⟨rfl, rfl⟩
          go_wp2_with fail
          refine (IndexByte_hv b _).mono ?_
          rintro e w1 ⟨rfl, rfl⟩
          by_cases h0 : hvI (a.toNat : Int) < 0
          · go_wp2_with fail
            go_ret2
            exact ⟨ret_tup (bad_here (by have := Hik.out; omega) Ga.out Gb.out (.inl h0)), hb⟩
          · by_cases h1 : hvI (b.toNat : Int) < 0
            · go_wp2_with fail
              go_ret2
              exact ⟨ret_tup (bad_here (by have := Hik.out; omega) Ga.out Gb.out (.inr h1)), hb⟩
            · have h0' : 0 ≤ hvI (a.toNat : Int) := by omega
              have h1' : 0 ≤ hvI (b.toNat : Int) := by omega
              go_wp2_with (first | (at_builtin; refine app_list (e' := 5) elemU8 rfl _ _ rfl w.heap.size u4 k (byteVals (decL s.data.toList k)) rfl (hown.alloc _) wr.heap.size 1 1 _ (0, 0) rfl (heap_alloc_new wr _) rfl (oneCell_u8 [_]) (by omega) (by have := Hik.out; unfold maxLen; omega) (by have := Hik.out; omega) (by simp; omega) (wr.heap.size + 1) (by simp) ?_))
              intro g cap w2 hown2 hgrow hat hgl
              have hb2 : Below w.heap.size w w2 := below_own (hb.alloc hsz _) (hown.alloc _) hgrow (Nat.le_refl _) (by simp; omega)
              have hown3 := dec_step hown2 Ga.out Gb.out h0' h1' rfl
              have hgood2 := Lib.hid (good_step Hgood.out Ga.out Gb.out h0' h1')
              clear hown2 hgrow
              go_wp2_with fail
              go_roundw
              case rel => exact ⟨i + 2, ⟨k + 1, by have := Hik.out; omega, hown3, hgood2.out, hb2⟩, by omega, by go_num⟩
              case measure => simp [intOf]; omega
        · have hk2 : 2 * k = s.size := by have := Hev.out; have := Hik.out; omega
          have hcv := conv_bytes (src := 22) (dst := 9) Tryd.underlying22 Tryd.underlying5 Tryd.underlying9 hown
          have Hown := Lib.hid hown
          have Hk := Lib.hid hk2
          clear hown hk2 hik
          go_wp2_with fail
          go_ret2
          exact ⟨ret_tup (decR_end Hk.out (by have := Hbig.out; omega) Hgood.out), hb⟩
end Go.Proofs.YtdokgegnpepeeaaDoor
