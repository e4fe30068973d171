/- The law FnTapes. -/
import Derived.Test.YtjfgninlnlhibaaProg
import Derived.Test.YtjfgninlnlhibaaTapeD
import Derived.Test.YtjfgninlnlhibaaTapeL
import Derived.Test.YtjfgninlnlhibaaFieldW
namespace Go.Proofs.Ytjfgninlnlhibaa
open Go Go.RowKit
theorem impl_TapeBelow_is (s a n p q : Int) (hp : tbI s a n = p) (hq : tbaI s a n = q) (w : World) :
    Calls Try.prog 14 #[.agg #[.int .i64 s, .int .i64 a], .int .i64 n] w fun e w' => e = .returned (.tuple #[.int .i64 p, .agg #[.int .i64 s, .int .i64 q]]) ∧ Below w.heap.size w w' := by
  subst hp hq; exact impl_TapeBelow s a n w
/-- Three tapes in boxes, the last of which turns, and a list below it. -/
structure Trio (w wr : World) (T : TypeId) (g3 g8 g9 : Nat) (s a b x : Int) (A : Option Addr) (zs : List Int) : Prop where
  t : wr.heap[g3]? = some (.cells #[.int .i64 s, .int .i64 a] T (0, 0))
  nx : wr.heap[g8]? = some (.cells #[.int .i64 s, .int .i64 b] T (0, 0))
  cur : wr.heap[g9]? = some (.cells #[.int .i64 s, .int .i64 x] T (0, 0))
  list : IntsB g9 wr A zs
  low : Below w.heap.size w wr
  l3 : g3 < g9
  l8 : g8 < g9
  l9 : w.heap.size ≤ g9
theorem Trio.lt {w wr : World} {T : TypeId} {g3 g8 g9 : Nat} {s a b x : Int} {A : Option Addr} {zs : List Int} (h : Trio w wr T g3 g8 g9 s a b x A zs) : g9 < wr.heap.size := (Array.getElem?_eq_some_iff.1 h.cur).1
theorem Trio.next {w wr w1 : World} {T : TypeId} {g3 g8 g9 : Nat} {s a b x : Int} {A : Option Addr} {zs : List Int} (h : Trio w wr T g3 g8 g9 s a b x A zs) (hb : Below wr.heap.size wr w1) : Trio w w1 T g3 g8 g9 s a b x A zs :=
  ⟨box2_below h.t hb, box2_below h.nx hb, box2_below h.cur hb, h.list.below (hb.mono (Nat.le_of_lt h.lt)), h.low.trans (hb.mono h.low.size), h.l3, h.l8, h.l9⟩
theorem Trio.set {w wr : World} {T : TypeId} {g3 g8 g9 : Nat} {s a b x : Int} {A : Option Addr} {zs : List Int} (h : Trio w wr T g3 g8 g9 s a b x A zs) (y : Int) :
    Trio w ((wr.setCell ⟨g9, 0, none⟩ (.int .i64 s)).setCell ⟨g9, 1, none⟩ (.int .i64 y)) T g3 g8 g9 s a b y A zs := by
  have h3 := h.l3
  have h8 := h.l8
  have hb : Below g9 wr ((wr.setCell ⟨g9, 0, none⟩ (.int .i64 s)).setCell ⟨g9, 1, none⟩ (.int .i64 y)) :=
    ((Below.refl _ _).setCell (p := ⟨g9, 0, none⟩) (Nat.le_refl _) _).setCell (p := ⟨g9, 1, none⟩) (Nat.le_refl _) _
  exact ⟨by rw [box2_other (by omega)]; exact h.t, by rw [box2_other (by omega)]; exact h.nx, box2_set h.cur _ _, h.list.below hb, h.low.trans (hb.mono h.l9), h3, h8, h.l9⟩
theorem FnTapes_walk (A : Option Addr) (n c : Nat) (w : World) (hb : Bytes w.heap.size w A n) (hm : n ≤ 9223372036854775807) :
    Calls Try.prog 3 #[.slice A n c] w fun e w' => e = .returned (.bool true) ∧ Below w.heap.size w w' := by
  by_cases hn : 1048576 < n
  · go_enter Try.func3, Try.ntmps3
    go_wp2_with fail
    refine (big_any A n c w true (by simpa using hn) hm).mono ?_
    rintro e w1 ⟨rfl, rfl⟩
    go_wp2_with fail
    go_ret
    exact ⟨rfl, Below.refl _ _⟩
  · have hn' : n ≤ 1048576 := by omega
    go_enter Try.func3, Try.ntmps3
    go_wp2_with fail
    refine (big_any A n c w false (by simpa using hn') hm).mono ?_
    rintro e w1 ⟨rfl, rfl⟩
    go_wp2_with fail
    refine (DrawTape_any A n c w hb (by omega)).mono ?_
    rintro e w1 ⟨s, a, rfl, hs, ha0, ha1, hb1⟩
    have hb1' := hb1.alloc hb1.size (.cells #[.int .i64 s, .int .i64 a] 25)
    have hbA := hb.keep fun k hk => hb1'.block k hk
    have h3 := heap_alloc_new w1 (.cells #[.int .i64 s, .int .i64 a] 25)
    go_wp2_with fail
    refine (DrawPlaces_any A n c _ (fun h => by obtain ⟨b, o, e, hl, hc⟩ := hbA h; exact ⟨b, o, e, Nat.lt_of_lt_of_le hl hb1'.size, hc⟩) (by omega)).mono ?_
    rintro e w2 ⟨g, cap, zs, rfl, hl, hpl, hown, hb2⟩
    have h3' := box2_below h3 hb2
    have hb3 := hb1'.trans (hb2.mono hb1'.size)
    have hi := Ints.of_own hown
    obtain ⟨b0, o0, e0, hl0, c0⟩ := hi.at_ (j := 0) (by omega)
    obtain ⟨b1, o1, e1, hl1, c1⟩ := hi.at_ (j := 1) (by omega)
    injection e0 with e0; injection e0 with e00 e01
    injection e1 with e1; injection e1 with e10 e11
    subst e00 e01 e10 e11
    obtain ⟨x0, x1⟩ := hpl.at_ (j := 0) (by omega)
    obtain ⟨y0, y1⟩ := hpl.at_ (j := 1) (by omega)
    generalize zs.getD 0 0 = qa at c0 x0 x1
    generalize zs.getD 1 0 = qb at c1 y0 y1
    simp only [Nat.zero_add] at c0 c1
    obtain ⟨t0, t1, _, _⟩ := box2 h3'
    have Hs := Lib.hid hs
    clear hown hi hpl hl hb hbA hb1 hb2 hm hn hn' hb1' h3 hs
    generalize w1.heap.size = g3 at h3' t0 t1 ⊢
    go_wp2_with fail
    have m0 : 1 ≤ 1 + qa % 200 ∧ 1 + qa % 200 ≤ 200 := by omega
    have k0 : 0 ≤ qb % 12 ∧ qb % 12 < 12 := by omega
    generalize 1 + qa % 200 = m at *
    generalize hkk : qb % 12 = kk at *
    obtain ⟨k, rfl⟩ := Int.eq_ofNat_of_zero_le k0.1
    have hmb : isBound m := ⟨m0.1, by omega⟩
    have Hmb := Lib.hid hmb
    have hts : isTape s a := ⟨Hs.out, ha0, by omega⟩
    have hk12 : k < 12 := by omega
    obtain ⟨m1, m2⟩ := m0
    clear hkk k0 c0 c1 hl0 hl1 x0 x1 y0 y1
    refine (impl_TapeList_yes s a m k hts hmb (by omega) (by omega) w2).mono ?_
    rintro e w3 ⟨L, mm, cc, rfl, hlen, hownL, hb4⟩
    obtain rfl : mm = k := by rw [← hlen, tlN_length]
    have h3a := box2_below h3' hb4
    have hb5 := hb3.trans (hb4.mono hb3.size)
    have hl3 : g3 < w3.heap.size := (Array.getElem?_eq_some_iff.1 h3a).1
    have L3 := Ints.of_own hownL
    obtain ⟨w4, hw4⟩ : ∃ w4, w3.alloc (.cells #[.int .i64 s, .int .i64 (a + mm)] 25) = w4 := ⟨_, rfl⟩
    obtain ⟨w5, hw5⟩ : ∃ w5, w4.alloc (.cells #[.int .i64 s, .int .i64 a] 25) = w5 := ⟨_, rfl⟩
    have hs4 : w4.heap.size = w3.heap.size + 1 := by rw [← hw4]; simp
    have a4 : Below w3.heap.size w3 w4 := by rw [← hw4]; exact (Below.refl _ _).alloc (Nat.le_refl _) _
    have a5 : Below w4.heap.size w4 w5 := by rw [← hw5]; exact (Below.refl _ _).alloc (Nat.le_refl _) _
    have h8 : w4.heap[w3.heap.size]? = some (.cells #[.int .i64 s, .int .i64 (a + mm)] 25 (0, 0)) := by rw [← hw4]; exact heap_alloc_new w3 _
    have h9 : w5.heap[w4.heap.size]? = some (.cells #[.int .i64 s, .int .i64 a] 25 (0, 0)) := by rw [← hw5]; exact heap_alloc_new w4 _
    have h3b := box2_below h3a a4
    have T5 : Trio w w5 25 g3 w3.heap.size w4.heap.size s a (a + mm) a L (tlN s a m mm) := by
      refine ⟨box2_below h3b a5, box2_below h8 a5, h9, ?_, (hb5.trans (a4.mono hb5.size)).trans (a5.mono (by have := hb5.size; omega)), by omega, by omega, by have := hb5.size; omega⟩
      exact ((L3.below a4).bound).below a5
    have h3f : w4.cell? ⟨g3, 0, none⟩ = some (.int .i64 s) ∧ w4.cell? ⟨g3, 1, none⟩ = some (.int .i64 a) := ⟨(box2 h3b).1, (box2 h3b).2.1⟩
    obtain ⟨f0, f1⟩ := h3f
    clear hownL hb4 h3' t0 t1 hlen hb3 L3 h3a h3b h8 h9 a4 a5 hb5 hts hmb
    go_wp2_with fail
    rw [hs4] at T5
    clear hw4 hw5 f0 f1 hs4
    generalize w3.heap.size = g8 at T5 hl3 ⊢
    go_loopw [10] (fun i wr => ∃ j : Nat, j ≤ mm ∧ i = .int .i64 j ∧ Trio w wr 25 g3 g8 (g8 + 1) s a (a + mm) (a + j) L (tlN s a m mm)) (fun i _ => mm - (intOf i).toNat)
    case atStart => exact ⟨0, Nat.zero_le _, rfl, by simpa using T5⟩
    case round =>
      obtain ⟨j, hj, rfl, hT⟩ := hrel
      by_cases hlt : j < mm
      · have hmore : more s (a + j) := ⟨⟨Hs.out, by omega, by omega⟩, by omega⟩
        have ep := Lib.hid (show tbI s (a + j) m = redI (keyedI s 7 (a + j)) m from if_pos ⟨Hmb.out, hmore⟩)
        have eq := Lib.hid (show tbaI s (a + j) m = a + j + 1 from if_pos ⟨Hmb.out, hmore⟩)
        have hz := redI_range (x := keyedI s 7 (a + j)) Hmb.out
        obtain ⟨b, o, rfl, hbl, hc⟩ := hT.list.at_ (j := j) (by rw [tlN_length]; exact hlt)
        rw [tlN_at s a m mm j hlt] at hc
        generalize redI (keyedI s 7 (a + j)) m = z at ep hz hc
        obtain ⟨z0, z1⟩ := hz
        obtain ⟨x0, x1, _, _⟩ := box2 hT.cur
        clear hmore T5
        go_wp2_with fail
        refine (impl_TapeBelow_is s (a + j) m z (a + j + 1) ep.out eq.out wr).mono ?_
        rintro e w6 ⟨rfl, hb6⟩
        have hT6 := hT.next hb6
        have hc6 := (hb6.cell (p := ⟨b, o + j, none⟩) (by have := hT.lt; simp; omega)).trans hc
        have a7 : Below w6.heap.size w6 (w6.alloc (.cells #[.int .i64 s, .int .i64 (a + j + 1)] 25)) := (Below.refl _ _).alloc (Nat.le_refl _) _
        have hT7 := hT6.next a7
        have hc7 := (a7.cell (p := ⟨b, o + j, none⟩) (by have := hT6.lt; simp; omega)).trans hc6
        have y7 := heap_alloc_new w6 (.cells #[.int .i64 s, .int .i64 (a + j + 1)] 25)
        obtain ⟨y0, y1, _, _⟩ := box2 y7
        obtain ⟨u0, u1, u2, u3⟩ := box2 hT7.cur
        have hT8 := hT7.set (a + j + 1)
        have hj0 : (0 : Int) ≤ j := by omega
        have hj1 : (j : Int) < mm := by omega
        clear hT hb6 hT6 hc6 a7 hT7 y7 x0 x1 hc ep eq
        go_wp2_with fail
        go_roundw
        case rel => exact ⟨j + 1, by omega, by go_num, (by have e : a + ((j + 1 : Nat) : Int) = a + j + 1 := (by omega); rw [e]; exact hT8)⟩
        case measure => simp [intOf]; omega
      · obtain rfl : j = mm := by omega
        obtain ⟨x0, x1, _, _⟩ := box2 hT.t
        obtain ⟨y0, y1, _, _⟩ := box2 hT.nx
        obtain ⟨u0, u1, _, _⟩ := box2 hT.cur
        have hok : decide (isTape s (a + j)) = true := decide_eq_true ⟨Hs.out, by omega, by omega⟩
        have Hl := Lib.hid hT.low
        clear T5 hT
        go_wp2_with fail
        refine (impl_TapeOk s (a + j) wr).mono ?_
        rintro e w6 ⟨rfl, hb6⟩
        rw [hok]
        go_wp2_with fail
        go_ret
        exact ⟨rfl, Hl.out.trans (hb6.mono Hl.out.size)⟩
end Go.Proofs.Ytjfgninlnlhibaa
