/- The draw of a line. -/
import Derived.Test.YtdokgegnpepeeaaDoorDrawT
import Derived.Test.YtdokgegnpepeeaaDoorDigs
import Derived.Deep.LoopGhost
namespace Go.Proofs.YtdokgegnpepeeaaDoor
open Go Go.RowKit
theorem size_add (a b : ByteArray) : (a ++ b).size = a.size + b.size := ByteArray.size_append
theorem size_rep (k : Nat) (c : UInt8) : (⟨(List.replicate k c).toArray⟩ : ByteArray).size = k := by
  show (List.replicate k c).toArray.size = k
  simp
def DrawnS (P : ByteArray → Prop) (w : World) (e : Ending) (w' : World) : Prop := ∃ s : ByteArray, e = .returned (.string s) ∧ P s ∧ Below w.heap.size w w'
theorem byte_of (x : Int) (h0 : 0 ≤ x) (h1 : x ≤ 255) : ((UInt8.ofNat x.toNat).toNat : Int) = x := by rw [UInt8.toNat_ofNat']; omega
/-- The cells of a new block of strings. -/
theorem cells_newS (w : World) (l : List ByteArray) (T : TypeId) (P : ByteArray → Prop) (hP : ∀ x, x ∈ l → P x) :
    ∀ k, k < l.length → ∃ x : ByteArray, P x ∧ (w.alloc (.cells (l.map Value.string).toArray T)).cell? ⟨w.heap.size, 0 + k, none⟩ = some (.string x) := by
  intro k hk
  refine ⟨l[k], hP _ (List.getElem_mem _), ?_⟩
  have h := heap_alloc_new w (.cells (l.map Value.string).toArray T)
  have h2 := cell_of_row (w.alloc (.cells (l.map Value.string).toArray T)) w.heap.size (0 + k) _ T (0, 0) h
  rw [h2]
  simp [hk]
def LongS (x : Int) (w : World) (e : Ending) (w' : World) : Prop := ∃ s : ByteArray, e = .returned (.string s) ∧ (s.size : Int) = x ∧ Below w.heap.size w w'
theorem l01Long_size (x : Int) (h0 : 0 ≤ x) (h1 : x ≤ 30000) (c : UInt8) (w : World) :
    Calls Tryd.prog 23 #[.int .i64 x, .int .u8 (c.toNat : Int)] w (LongS x w) :=
  (l01Long_any x h0 h1 c w).mono fun _ _ ⟨he, hb⟩ => ⟨_, he, by rw [size_rep]; omega, hb⟩
theorem DrawSplitFields_any (A : Option Addr) (n c : Nat) (w : World) (hb : Bytes w.heap.size w A n) (hn : n ≤ 1048576) :
    Calls Tryd.prog 15 #[.slice A n c] w (DrawnS (fun s => s.size ≤ 2000) w) := by
  go_enter Tryd.func15, Tryd.ntmps15
  go_wp2_with fail
  refine (l01New_any A n c w hb hn).mono ?_
  rintro e w1 ⟨g, rfl, hc1, hb1⟩
  go_wp2_with fail
  refine (l01Below_any _ g 9 w1 hc1).mono ?_
  rintro e w2 ⟨m, rfl, ⟨_, hm⟩, hc2, hg2⟩
  obtain ⟨hm0, hm1⟩ := hm (by omega)
  have hb2 := below_cur hb1 hc1 hg2
  go_wp2_with fail
  refine (l01Once_any _ g 15 w2 hc2).mono ?_
  rintro e w3 ⟨x, rfl, hc3, hg3⟩
  have hb3 := below_cur hb2 hc2 hg3
  clear hb hc1 hb1 hg2 hc2 hb2 hg3
  go_upto_if 13 with (fail)
  go_cut [4] (fun s4 wx => ∃ q : Int, s4 = .int .i64 q ∧ q ≤ 25 ∧ Cur 53 w.heap.size wx g ∧ Below w.heap.size w wx)
  case first =>
    cases x
    · go_wp2_with fail
      go_meet
      exact ⟨m, rfl, by omega, hc3, hb3⟩
    · go_wp2_with fail
      refine (l01Below_any _ g 2 w3 hc3).mono ?_
      rintro e w4 ⟨y, rfl, ⟨_, hy⟩, hc4, hg4⟩
      obtain ⟨hy0, hy1⟩ := hy (by omega)
      go_wp2_with fail
      go_meet
      exact ⟨_, rfl, by omega, hc4, below_cur hb3 hc3 hg4⟩
  case rest =>
    obtain ⟨q, rfl, hq, hcq, hbq⟩ := hcut
    clear hc3 hb3
    go_wp2_with fail
    go_loopg [5, 6] 25 (fun gk s5 s6 wx => ∃ (i : Nat) (s : ByteArray), i + gk = 25 ∧ s5 = .string s ∧ s6 = .int .i64 (i : Int) ∧ s.size ≤ 8 * i ∧ Cur 53 w.heap.size wx g ∧ Below w.heap.size w wx)
    case atStart => exact ⟨0, _, by omega, rfl, rfl, Nat.le_refl _, hcq, hbq⟩
    case round =>
      obtain ⟨i, s, hik, rfl, rfl, hs, hcr, hbr⟩ := hrel
      clear hcq hbq
      by_cases hlt : (i : Int) < q
      · obtain ⟨k', rfl⟩ : ∃ k', gk = k' + 1 := ⟨gk - 1, by omega⟩
        go_upto_region 9 with (fail)
        go_cut [27] (fun s27 wx => ∃ b : Bool, s27 = .bool b ∧ Cur 53 w.heap.size wx g ∧ Below w.heap.size w wx)
        case first =>
          by_cases hi : 0 < i
          · have hi' : (0 : Int) < i := by omega
            go_wp2_with fail
            go_meet
            exact ⟨_, rfl, hcr, hbr⟩
          · have hi' : (i : Int) ≤ 0 := by omega
            go_wp2_with fail
            refine (l01Once_any _ g 5 wr hcr).mono ?_
            rintro e w4 ⟨x, rfl, hc4, hg4⟩
            have hb4 := below_cur hbr hcr hg4
            go_wp2_with fail
            go_meet
            exact ⟨_, rfl, hc4, hb4⟩
        case rest =>
          obtain ⟨b, rfl, hcr1, hbr1⟩ := hcut
          clear hcr hbr
          go_upto_if 27 with (fail)
          go_cut [5] (fun s5 wx => ∃ t : ByteArray, s5 = .string t ∧ t.size ≤ 8 * i + 3 ∧ Cur 53 w.heap.size wx g ∧ Below w.heap.size w wx)
          case first =>
            cases b
            · go_wp2_with fail
              go_meet
              exact ⟨s, rfl, by omega, hcr1, hbr1⟩
            · go_wp2_with fail
              refine (l01Below_any _ g 2 wc hcr1).mono ?_
              rintro e w4 ⟨y, rfl, ⟨_, hy⟩, hc4, hg4⟩
              obtain ⟨hy0, hy1⟩ := hy (by omega)
              have hb4 := below_cur hbr1 hcr1 hg4
              rcases (by omega : y = 0 ∨ y = 1) with rfl | rfl
              all_goals
                go_wp2_with fail
                refine (l01Below_any _ g 3 w4 hc4).mono ?_
                rintro e w5 ⟨z, rfl, ⟨_, hz⟩, hc5, hg5⟩
                obtain ⟨hz0, hz1⟩ := hz (by omega)
                have hb5 := below_cur hb4 hc4 hg5
                go_wp2_with fail
                refine (l01Long_size _ (by omega) (by omega) 32 w5).mono ?_
                rintro e w6 ⟨sp, rfl, hsp, hb6⟩
                have Hsp := Lib.hid hsp
                have hsp2 : sp.size ≤ 3 := by omega
                clear hsp
                have hc6 := hc5.below hb6 hc5.lt
                have hb7 := hb5.trans (hb6.mono hb5.size)
                have hs1 : s.size ≤ 200 := by omega
                go_wp2_with fail
                go_meet
                exact ⟨_, rfl, by rw [size_add]; omega, hc6, hb7⟩
          case rest =>
            obtain ⟨t, rfl, ht, hcr2, hbr2⟩ := hcut
            clear hcr1 hbr1
            go_wp2_with fail
            go_loopg [5, 7] 5 (fun gj s5 s7 wx => ∃ (j : Nat) (u : ByteArray), j + gj = 5 ∧ s5 = .string u ∧ s7 = .int .i64 (j : Int) ∧ u.size ≤ t.size + j ∧ Cur 53 w.heap.size wx g ∧ Below w.heap.size w wx)
            case atStart => exact ⟨0, _, by omega, rfl, rfl, Nat.le_refl _, hcr2, hbr2⟩
            case round =>
              obtain ⟨j, u, hjk, rfl, rfl, hu, hcj, hbj⟩ := hrel
              clear hcr2 hbr2
              go_wp2_with fail
              refine (l01Below_any _ g 5 wr hcj).mono ?_
              rintro e w4 ⟨y, rfl, ⟨_, hy⟩, hc4, hg4⟩
              obtain ⟨hy0, hy1⟩ := hy (by omega)
              have hb4 := below_cur hbj hcj hg4
              by_cases hjy : (j : Int) ≤ y
              · obtain ⟨j', rfl⟩ : ∃ j', gk = j' + 1 := ⟨gk - 1, by omega⟩
                go_wp2_with fail
                refine (l01Below_any _ g 94 w4 hc4).mono ?_
                rintro e w5 ⟨z, rfl, ⟨_, hz⟩, hc5, hg5⟩
                obtain ⟨hz0, hz1⟩ := hz (by omega)
                have hb5 := below_cur hb4 hc4 hg5
                have hcv := conv_one (P := Tryd.prog) (w := w5) (src := 22) (dst := 9) (c := UInt8.ofNat (33 + z).toNat) Tryd.underlying22 Tryd.underlying5 Tryd.underlying9 (byte_of (33 + z) (by omega) (by omega))
                have hs1 : u.size ≤ 300 := by omega
                have hbs5 := hb5.size
                generalize UInt8.ofNat (33 + z).toNat = ch at hcv
                go_wp2_with fail
                go_roundg j'
                case measure => omega
                case rel => exact ⟨j + 1, _, by omega, rfl, by go_num, by rw [size_add]; show _ + 1 ≤ _; omega, hc5.alloc _, hb5.alloc hbs5 _⟩
              · go_wp2_with fail
                go_roundg k'
                case measure => omega
                case rel => exact ⟨i + 1, _, by omega, rfl, by go_num, by omega, hc4, hb4⟩
      · go_wp2_with fail
        refine (l01Below_any _ g 12 wr hcr).mono ?_
        rintro e w4 ⟨y, rfl, ⟨_, hy⟩, hc4, hg4⟩
        obtain ⟨hy0, hy1⟩ := hy (by omega)
        have hb4 := below_cur hbr hcr hg4
        have hs4 := hb4.size
        have hs200 : s.size ≤ 200 := by omega
        by_cases h0 : y = 0
        · subst h0
          go_wp2_with fail
          refine (l01Pick_any _ g w4.heap.size 0 6 6 (fun x => x.size ≤ 2) _ (hc4.alloc _) (by omega) (by omega) (by have := hc4.lt; omega) (by simp)
            (cells_newS w4 [⟨#[32]⟩, ⟨#[32, 32]⟩, ⟨#[9]⟩, ⟨#[10]⟩, ⟨#[127]⟩, ⟨#[233]⟩] _ (fun x => x.size ≤ 2) (by decide))).mono ?_
          rintro e w5 ⟨z, rfl, hz, hc5, hg5⟩
          have hb5 := below_cur (hb4.alloc hs4 _) (hc4.alloc _) hg5
          go_wp2_with fail
          go_ret
          exact ⟨_, rfl, by show (_ ++ _ : ByteArray).size ≤ 2000; rw [size_add]; omega, hb5⟩
        · have e0 : (y == 0) = false := beq_eq_false_iff_ne.2 h0
          by_cases h1 : y = 1
          · subst h1
            by_cases hl6 : s.size < 600
            · have hd6 : decide ((s.size : Int) < 600) = true := by simp; omega
              go_wp2_with fail
              refine (l01Below_any _ g 2 w4 hc4).mono ?_
              rintro e w5 ⟨z, rfl, ⟨_, hz⟩, hc5, hg5⟩
              obtain ⟨hz0, hz1⟩ := hz (by omega)
              have hb5 := below_cur hb4 hc4 hg5
              go_wp2_with fail
              refine (l01Long_size _ (by omega) (by omega) 32 w5).mono ?_
              rintro e w6 ⟨sp, rfl, hsp, hb6⟩
              have Hsp := Lib.hid hsp
              have hsp2 : sp.size ≤ 601 := by omega
              clear hsp
              go_wp2_with fail
              go_ret
              exact ⟨_, rfl, by show (_ ++ _ : ByteArray).size ≤ 2000; rw [size_add]; omega, hb5.trans (hb6.mono hb5.size)⟩
            · omega
          · have e1 : (y == 1) = false := beq_eq_false_iff_ne.2 h1
            go_wp2_with fail
            go_ret
            exact ⟨_, rfl, by show s.size ≤ 2000; omega, hb4⟩
end Go.Proofs.YtdokgegnpepeeaaDoor
