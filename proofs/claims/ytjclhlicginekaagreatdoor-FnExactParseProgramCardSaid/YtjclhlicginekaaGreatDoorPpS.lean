/- The model's ParseProgram. -/
import Derived.Test.YtjclhlicginekaaGreatDoorProg
import Derived.Test.YtjclhlicginekaaGreatDoorPpI
namespace Go.Proofs.YtjclhlicginekaaGreatDoor
open Go Go.RowKit
def seg (t : List UInt8) (b i : Nat) : List UInt8 := (t.take i).drop b
theorem seg_step {t : List UInt8} {b i : Nat} (hb : b ≤ i) (hi : i < t.length) : seg t b (i + 1) = seg t b i ++ [t.getD i 0] := by
  unfold seg
  rw [List.take_succ_eq_append_getElem hi, List.drop_append_of_le_length (by simp; omega), List.getD_eq_getElem?_getD, List.getElem?_eq_getElem hi]
  rfl
theorem seg_self (t : List UInt8) (i : Nat) : seg t i i = [] := by
  unfold seg; apply List.drop_eq_nil_of_le; simp; omega
/-- What is still to come of the text. -/
def PInv (t : List UInt8) (R : List St × Int) (i b ln : Nat) (acc : List St) : Prop :=
  (i ≤ t.length ∧ goP (linesA (seg t b i) (t.drop i)) ln acc = R) ∨ (i = t.length + 1 ∧ goP [] ln acc = R)
theorem pinv_char {t : List UInt8} {R : List St × Int} {i b ln : Nat} {acc : List St} (h : PInv t R i b ln acc) (hb : b ≤ i) (hi : i < t.length) (hc : t.getD i 0 ≠ 10) : PInv t R (i + 1) b ln acc := by
  rcases h with ⟨_, h⟩ | ⟨h, _⟩
  · refine .inl ⟨hi, ?_⟩
    have e : t.drop i = t.getD i 0 :: t.drop (i + 1) := by
      rw [List.drop_eq_getElem_cons hi, List.getD_eq_getElem?_getD, List.getElem?_eq_getElem hi]; rfl
    rw [e, linesA, if_neg hc, ← seg_step hb hi] at h
    exact h
  · omega
/-- A line ends: what it makes. -/
theorem pinv_line {t : List UInt8} {R : List St × Int} {i b ln : Nat} {acc : List St} (h : PInv t R i b ln acc) (hi : i = t.length ∨ (i < t.length ∧ t.getD i 0 = 10)) :
    (seg t b i = [] → PInv t R (i + 1) (i + 1) (ln + 1) acc) ∧
    (seg t b i ≠ [] → (∀ s, parseL (seg t b i) = some s → PInv t R (i + 1) (i + 1) (ln + 1) (acc ++ [s])) ∧ (parseL (seg t b i) = none → R = ([], (ln : Int) + 1))) := by
  obtain ⟨rest, hrest, hgo⟩ : ∃ rest, (∀ acc', goP rest (ln + 1) acc' = R → PInv t R (i + 1) (i + 1) (ln + 1) acc') ∧ goP (seg t b i :: rest) ln acc = R := by
    rcases h with ⟨hle, h⟩ | ⟨h, _⟩
    · rcases hi with he | ⟨hlt, hc⟩
      · refine ⟨[], fun acc' h' => .inr ⟨by omega, h'⟩, ?_⟩
        rw [List.drop_of_length_le (by omega)] at h
        exact h
      · refine ⟨linesA [] (t.drop (i + 1)), fun acc' h' => .inl ⟨hlt, by rw [seg_self]; exact h'⟩, ?_⟩
        have e : t.drop i = t.getD i 0 :: t.drop (i + 1) := by
          rw [List.drop_eq_getElem_cons hlt, List.getD_eq_getElem?_getD, List.getElem?_eq_getElem hlt]; rfl
        rw [e, linesA, if_pos hc] at h
        exact h
    · omega
  constructor
  · intro he
    rw [goP, if_pos he] at hgo
    exact hrest acc hgo
  · intro hne
    rw [goP, if_neg hne] at hgo
    constructor
    · intro s hs
      rw [hs] at hgo
      exact hrest _ hgo
    · intro hn
      rw [hn] at hgo
      exact hgo.symm
set_option maxRecDepth 100000 in
theorem spec_ParseProgram_long (s : ByteArray) (w : World) (hm : s.size ≤ 1048576) (h : 20000 < s.size) :
    Calls Tryz.prog 13 #[.string s] w (PpPost ([], -1) w) := by
  have hd : decide ((20000 : Int) < (s.size : Int)) = true := by simp; omega
  have hown0 : (w.alloc (.cells #[] 34)).ownsRow w.heap.size 34 6 (.slice (some ⟨w.heap.size, 0, none⟩) 0 0) 0 (intVals (flat [])) := World.ownsRow_lit w #[] 0 (Nat.le_refl _) (by unfold maxLen; omega) rfl
  go_enter Tryz.func13, Tryz.ntmps13
  go_wp2_with fail
  go_ret2
  exact ⟨_, _, _, rfl, OwnSt.of_own hown0, below_alloc _ _⟩
set_option maxRecDepth 100000 in
set_option maxHeartbeats 2000000 in
theorem spec_ParseProgram_go (s : ByteArray) (w : World) (hm : s.size ≤ 20000) (R : List St × Int) (hR : goP (linesL s.data.toList) 0 [] = R)
    (cps : ∀ (ln : ByteArray) (w : World), ln.size ≤ 1048576 → Calls Tryz.prog 28 #[.string ln] w fun e w' => e = .returned (optV (parseL ln.data.toList)) ∧ Below w.heap.size w w')
    (cpo : ∀ (A : Option Addr) (n cp : Nat) (ss : List St) (w : World), Ints w A (flat ss) → ss.length = n → n ≤ 2000000 → Calls Tryz.prog 29 #[.slice A n cp] w fun e w' => e = .returned (.bool (decide (progI ss))) ∧ Below w.heap.size w w') :
    Calls Tryz.prog 13 #[.string s] w (PpPost R w) := by
  have hd : decide ((20000 : Int) < (s.size : Int)) = false := by simp; omega
  have hsl : s.data.toList.length = s.size := by simp
  have Hsl := Lib.hid hsl
  have hown0 : (w.alloc (.cells #[] 34)).ownsRow w.heap.size 34 6 (.slice (some ⟨w.heap.size, 0, none⟩) 0 0) 0 (intVals (flat [])) := World.ownsRow_lit w #[] 0 (Nat.le_refl _) (by unfold maxLen; omega) rfl
  have hb0 := below_alloc w (.cells #[] 34)
  have h0 : PInv s.data.toList R 0 0 0 [] := .inl ⟨Nat.zero_le _, hR⟩
  have H0 := Lib.hid h0
  clear hsl hR h0
  go_enter Tryz.func13, Tryz.ntmps13
  go_wp2_with fail
  go_loopw [4, 5, 6, 7] (fun v b ln i wr => ∃ (k bb l : Nat) (A : Option Addr) (m c : Nat) (acc : List St), i = .int .i64 k ∧ b = .int .i64 bb ∧ ln = .int .i64 l ∧ v = .slice A m c ∧ bb ≤ k ∧ k ≤ s.size + 1 ∧ l ≤ k ∧ m ≤ k ∧ OwnS w.heap.size wr (.slice A m c) m acc ∧ Hid (PInv s.data.toList R k bb l acc) ∧ Below w.heap.size w wr) (fun _ _ _ i _ => s.size + 1 - (intOf i).toNat)
  case atStart => exact ⟨0, 0, 0, some ⟨w.heap.size, 0, none⟩, 0, 0, [], rfl, rfl, rfl, rfl, Nat.le_refl _, Nat.zero_le _, Nat.le_refl _, Nat.le_refl _, hown0, H0, hb0⟩
  case round =>
    obtain ⟨k, bb, l, A, m, c, acc, rfl, rfl, rfl, rfl, hbk, hks, hlk, hmk, hown, hinv, hb⟩ := hrel
    have hsz := hb.size
    clear hown0 hb0
    by_cases hle : k ≤ s.size
    · have k0 : (k : Int) ≤ s.size := by omega
      have k1 : (0 : Int) ≤ bb := by omega
      have k2 : (bb : Int) ≤ k := by omega
      by_cases hlt : k < s.size
      · have ec := byteAt_eq s k hlt
        have gc : s.data.toList.getD k 0 = byteAt s k := rfl
        generalize byteAt s k = ch at ec gc
        have hch := ch.toNat_lt
        have k3 : (k : Int) < s.size := by omega
        by_cases hnl : ch.toNat = 10
        · have hnl2 : ((ch.toNat : Int) != 10) = false := by simp [hnl]
          have HI : k = s.data.toList.length ∨ (k < s.data.toList.length ∧ s.data.toList.getD k 0 = 10) := .inr ⟨by have := Hsl.out; omega, by rw [gc]; exact UInt8.toNat_inj.1 hnl⟩
          have Gc := Lib.hid gc
          clear gc hnl
          obtain ⟨pe, pn⟩ := pinv_line hinv.out HI
          have hseg : (s.extract bb k).data.toList = seg s.data.toList bb k := by rw [extract_eq]; rfl
          have hses : (s.extract bb k).size ≤ 1048576 := by rw [ByteArray.size_extract]; omega
          by_cases hemp : seg s.data.toList bb k = []
          · have Pe := Lib.hid (pe hemp)
            have hle2 : s.extract bb k = ⟨#[]⟩ := ba_nil (by rw [hseg]; exact hemp)
            clear pe pn hseg hemp
            go_wp2_with fail
            go_roundw
            case rel => exact ⟨k + 1, k + 1, l + 1, A, m, c, acc, by go_num, by go_num, by go_num, rfl, Nat.le_refl _, by omega, by omega, by omega, hown, Pe.out, hb⟩
            case measure => simp [intOf] <;> omega
          · obtain ⟨ps, pz⟩ := pn hemp
            obtain ⟨q1, q2⟩ := str_some (a := s.extract bb k) (by rw [hseg]; exact hemp)
            have cp := cps (s.extract bb k) wr hses
            rw [hseg] at cp
            cases hp : parseL (seg s.data.toList bb k) with
            | none =>
              have Pz := Lib.hid (pz hp)
              rw [hp, optV_none] at cp
              clear pe pn ps pz hseg hemp hp
              go_wp2_with fail
              refine cp.mono ?_
              rintro e w5 ⟨rfl, hb5⟩
              have hb6 := low_alloc (hb.trans (hb5.mono hsz)) (.cells #[.int .i64 0, .int .i64 0, .int .i64 0, .int .i64 0, .int .i64 0, .int .i64 0] 34)
              have hs6 := hb6.size
              clear cp hb5 hown
              go_upto_region 15 with (fail)
              generalize hw6 : w5.alloc (.cells #[.int .i64 0, .int .i64 0, .int .i64 0, .int .i64 0, .int .i64 0, .int .i64 0] 34) = w6 at *
              clear hw6
              have hown6 : (w6.alloc (.cells #[] 34)).ownsRow w6.heap.size 34 6 (.slice (some ⟨w6.heap.size, 0, none⟩) 0 0) 0 (intVals (flat [])) := World.ownsRow_lit w6 #[] 0 (Nat.le_refl _) (by unfold maxLen; omega) rfl
              go_wp2_with fail
              go_ret2
              rw [Pz.out]
              exact ⟨_, _, _, rfl, OwnSt.of_own (own_mono hown6 hs6), low_alloc hb6 _⟩
            | some st =>
              obtain ⟨so, sd, sa, sb, sc, sn⟩ := st
              have Ps := Lib.hid (ps _ hp)
              rw [hp] at cp
              have cp2 : Calls Tryz.prog 28 #[.string (s.extract bb k)] wr fun e w' => e = .returned (.tuple #[.agg #[.int .i64 so, .int .i64 sd, .int .i64 sa, .int .i64 sb, .int .i64 sc, .int .i64 sn], .bool true]) ∧ Below wr.heap.size wr w' := cp
              clear pe pn ps pz hseg hemp hp cp
              go_wp2_with fail
              refine cp2.mono ?_
              rintro e w5 ⟨rfl, hb5⟩
              have hown5 := own_below hown hb5
              have hb6 := hb.trans (hb5.mono hsz)
              have hs5 := hb6.size
              have hown6 := own_below hown5 (below_alloc w5 (.cells #[.int .i64 so, .int .i64 sd, .int .i64 sa, .int .i64 sb, .int .i64 sc, .int .i64 sn] 34))
              have hb7 := low_alloc hb6 (.cells #[.int .i64 so, .int .i64 sd, .int .i64 sa, .int .i64 sb, .int .i64 sc, .int .i64 sn] 34)
              have hx7 := heap_alloc_new w5 (.cells #[.int .i64 so, .int .i64 sd, .int .i64 sa, .int .i64 sb, .int .i64 sc, .int .i64 sn] 34)
              have hs7 := hb7.size
              clear cp2 hb5 hown hown5 hb6 hb
              go_upto_region 15 with (fail)
              generalize hw6 : w5.alloc (.cells #[.int .i64 so, .int .i64 sd, .int .i64 sa, .int .i64 sb, .int .i64 sc, .int .i64 sn] 34) = w6 at *
              generalize hg6 : w5.heap.size = g6 at *
              clear hw6
              have x0 := (blk (i := 0) hx7 rfl).1
              have x1 := (blk (i := 1) hx7 rfl).1
              have x2 := (blk (i := 2) hx7 rfl).1
              have x3 := (blk (i := 3) hx7 rfl).1
              have x4 := (blk (i := 4) hx7 rfl).1
              have x5 := (blk (i := 5) hx7 rfl).1
              have hmm : m ≤ 20001 := by omega
              go_wp2_with (first | (at_builtin; refine app_list (e' := 34) elemStmt rfl _ _ rfl w.heap.size _ m (intVals (flat acc)) rfl (own_below hown6 (below_alloc _ _)) w6.heap.size 1 1 _ (0, 0) rfl (heap_alloc_new w6 _) rfl (oneCell_i64 [_, _, _, _, _, _]) (by omega) (by unfold maxLen; omega) (by omega) (by simp; omega) (w6.heap.size + 1) (by simp) ?_))
              intro g7 cap w7 hown7 hgrow hat hgl7
              have hb8 : Below w.heap.size w w7 := below_own (hb7.alloc hs7 _) (own_below hown6 (below_alloc _ _)) hgrow (Nat.le_refl _) (by simp; omega)
              have hown8 := ownP_one hown7
              have Hown8 := Lib.hid hown8
              clear hown7 hown8 hgrow hown6 hb7 x0 x1 x2 x3 x4 x5
              go_wp2_with fail
              go_roundw
              case rel => exact ⟨k + 1, k + 1, l + 1, _, m + 1, cap, _, by go_num, by go_num, by go_num, rfl, Nat.le_refl _, by omega, by omega, by omega, Hown8.out, Ps.out, hb8⟩
              case measure => simp [intOf] <;> omega
        · have hnl2 : ((ch.toNat : Int) != 10) = true := by simp; omega
          have Pc := Lib.hid (pinv_char hinv.out hbk (by have := Hsl.out; omega) (by rw [gc]; intro e; exact hnl (by rw [e]; rfl)))
          clear gc
          go_wp2_with fail
          go_roundw
          case rel => exact ⟨k + 1, bb, l, A, m, c, acc, by go_num, rfl, rfl, rfl, by omega, by omega, by omega, by omega, hown, Pc.out, hb⟩
          case measure => simp [intOf] <;> omega
      · obtain rfl : k = s.size := by omega
        have k3 : decide ((s.size : Int) < s.size) = false := by simp
        have HI : s.size = s.data.toList.length ∨ (s.size < s.data.toList.length ∧ s.data.toList.getD s.size 0 = 10) := .inl (by have := Hsl.out; omega)
        obtain ⟨pe, pn⟩ := pinv_line hinv.out HI
        have hseg : (s.extract bb s.size).data.toList = seg s.data.toList bb s.size := by rw [extract_eq]; rfl
        have hses : (s.extract bb s.size).size ≤ 1048576 := by rw [ByteArray.size_extract]; omega
        by_cases hemp : seg s.data.toList bb s.size = []
        · have Pe := Lib.hid (pe hemp)
          have hle2 : s.extract bb s.size = ⟨#[]⟩ := ba_nil (by rw [hseg]; exact hemp)
          clear pe pn hseg hemp
          go_wp2_with fail
          go_roundw
          case rel => exact ⟨s.size + 1, s.size + 1, l + 1, A, m, c, acc, by go_num, by go_num, by go_num, rfl, Nat.le_refl _, by omega, by omega, by omega, hown, Pe.out, hb⟩
          case measure => simp [intOf] <;> omega
        · obtain ⟨ps, pz⟩ := pn hemp
          obtain ⟨q1, q2⟩ := str_some (a := s.extract bb s.size) (by rw [hseg]; exact hemp)
          have cp := cps (s.extract bb s.size) wr hses
          rw [hseg] at cp
          cases hp : parseL (seg s.data.toList bb s.size) with
          | none =>
            have Pz := Lib.hid (pz hp)
            rw [hp, optV_none] at cp
            clear pe pn ps pz hseg hemp hp
            go_wp2_with fail
            refine cp.mono ?_
            rintro e w5 ⟨rfl, hb5⟩
            have hb6 := low_alloc (hb.trans (hb5.mono hsz)) (.cells #[.int .i64 0, .int .i64 0, .int .i64 0, .int .i64 0, .int .i64 0, .int .i64 0] 34)
            have hs6 := hb6.size
            clear cp hb5 hown
            go_upto_region 15 with (fail)
            generalize hw6 : w5.alloc (.cells #[.int .i64 0, .int .i64 0, .int .i64 0, .int .i64 0, .int .i64 0, .int .i64 0] 34) = w6 at *
            clear hw6
            have hown6 : (w6.alloc (.cells #[] 34)).ownsRow w6.heap.size 34 6 (.slice (some ⟨w6.heap.size, 0, none⟩) 0 0) 0 (intVals (flat [])) := World.ownsRow_lit w6 #[] 0 (Nat.le_refl _) (by unfold maxLen; omega) rfl
            go_wp2_with fail
            go_ret2
            rw [Pz.out]
            exact ⟨_, _, _, rfl, OwnSt.of_own (own_mono hown6 hs6), low_alloc hb6 _⟩
          | some st =>
            obtain ⟨so, sd, sa, sb, sc, sn⟩ := st
            have Ps := Lib.hid (ps _ hp)
            rw [hp] at cp
            have cp2 : Calls Tryz.prog 28 #[.string (s.extract bb s.size)] wr fun e w' => e = .returned (.tuple #[.agg #[.int .i64 so, .int .i64 sd, .int .i64 sa, .int .i64 sb, .int .i64 sc, .int .i64 sn], .bool true]) ∧ Below wr.heap.size wr w' := cp
            clear pe pn ps pz hseg hemp hp cp
            go_wp2_with fail
            refine cp2.mono ?_
            rintro e w5 ⟨rfl, hb5⟩
            have hown5 := own_below hown hb5
            have hb6 := hb.trans (hb5.mono hsz)
            have hs5 := hb6.size
            have hown6 := own_below hown5 (below_alloc w5 (.cells #[.int .i64 so, .int .i64 sd, .int .i64 sa, .int .i64 sb, .int .i64 sc, .int .i64 sn] 34))
            have hb7 := low_alloc hb6 (.cells #[.int .i64 so, .int .i64 sd, .int .i64 sa, .int .i64 sb, .int .i64 sc, .int .i64 sn] 34)
            have hx7 := heap_alloc_new w5 (.cells #[.int .i64 so, .int .i64 sd, .int .i64 sa, .int .i64 sb, .int .i64 sc, .int .i64 sn] 34)
            have hs7 := hb7.size
            clear cp2 hb5 hown hown5 hb6 hb
            go_upto_region 15 with (fail)
            generalize hw6 : w5.alloc (.cells #[.int .i64 so, .int .i64 sd, .int .i64 sa, .int .i64 sb, .int .i64 sc, .int .i64 sn] 34) = w6 at *
            generalize hg6 : w5.heap.size = g6 at *
            clear hw6
            have x0 := (blk (i := 0) hx7 rfl).1
            have x1 := (blk (i := 1) hx7 rfl).1
            have x2 := (blk (i := 2) hx7 rfl).1
            have x3 := (blk (i := 3) hx7 rfl).1
            have x4 := (blk (i := 4) hx7 rfl).1
            have x5 := (blk (i := 5) hx7 rfl).1
            have hmm : m ≤ 20001 := by omega
            go_wp2_with (first | (at_builtin; refine app_list (e' := 34) elemStmt rfl _ _ rfl w.heap.size _ m (intVals (flat acc)) rfl (own_below hown6 (below_alloc _ _)) w6.heap.size 1 1 _ (0, 0) rfl (heap_alloc_new w6 _) rfl (oneCell_i64 [_, _, _, _, _, _]) (by omega) (by unfold maxLen; omega) (by omega) (by simp; omega) (w6.heap.size + 1) (by simp) ?_))
            intro g7 cap w7 hown7 hgrow hat hgl7
            have hb8 : Below w.heap.size w w7 := below_own (hb7.alloc hs7 _) (own_below hown6 (below_alloc _ _)) hgrow (Nat.le_refl _) (by simp; omega)
            have hown8 := ownP_one hown7
            have Hown8 := Lib.hid hown8
            clear hown7 hown8 hgrow hown6 hb7 x0 x1 x2 x3 x4 x5
            go_wp2_with fail
            go_roundw
            case rel => exact ⟨s.size + 1, s.size + 1, l + 1, _, m + 1, cap, _, by go_num, by go_num, by go_num, rfl, Nat.le_refl _, by omega, by omega, by omega, Hown8.out, Ps.out, hb8⟩
            case measure => simp [intOf] <;> omega
    · obtain rfl : k = s.size + 1 := by omega
      have hfin : goP [] l acc = R := by
        rcases hinv.out with ⟨h, _⟩ | ⟨_, h⟩
        · have := Hsl.out; omega
        · exact h
      rw [goP] at hfin
      obtain ⟨hi, hal⟩ := OwnS.ints hown
      have cpo1 := cpo A m c acc wr hi hal (by omega)
      by_cases hpo : progI acc
      · rw [decide_eq_true hpo] at cpo1
        rw [if_pos hpo] at hfin
        clear hpo hinv hi cpo
        go_wp2_with fail
        refine cpo1.mono ?_
        rintro e w5 ⟨rfl, hb5⟩
        have hown5 := own_below hown hb5
        have hb6 := hb.trans (hb5.mono hsz)
        clear cpo1 hb5
        go_wp2_with fail
        go_ret2
        rw [← hfin]
        exact ⟨_, _, _, rfl, OwnSt.of_own hown5, hb6⟩
      · rw [decide_eq_false hpo] at cpo1
        rw [if_neg hpo] at hfin
        clear hpo hinv hi cpo
        go_wp2_with fail
        refine cpo1.mono ?_
        rintro e w5 ⟨rfl, hb5⟩
        have hb6 := hb.trans (hb5.mono hsz)
        have hs6 := hb6.size
        have hown6 : (w5.alloc (.cells #[] 34)).ownsRow w5.heap.size 34 6 (.slice (some ⟨w5.heap.size, 0, none⟩) 0 0) 0 (intVals (flat [])) := World.ownsRow_lit w5 #[] 0 (Nat.le_refl _) (by unfold maxLen; omega) rfl
        clear cpo1 hb5
        go_wp2_with fail
        go_ret2
        rw [← hfin]
        exact ⟨_, _, _, rfl, OwnSt.of_own (own_mono hown6 hs6), low_alloc hb6 _⟩
end Go.Proofs.YtjclhlicginekaaGreatDoor
