/- The helpers of the exact laws over slices of strings: comparing, marking, asking the marks. -/
import Derived.Test.YtdokgegnpepeeaaProg
import Derived.Test.YtdokgegnpepeeaaDraw
import Derived.Test.YtdokgegnpepeeaaDigs
namespace Go.Proofs.Ytdokgegnpepeeaa
open Go Go.RowKit
def mtext (k : Nat) : List UInt8 := if k = 0 then [109, 48] else 109 :: digs k
def Row (w : World) (A : Option Addr) (xs : List Value) : Prop :=
  0 < xs.length → ∃ b o, A = some ⟨b, o, none⟩ ∧ b < w.heap.size ∧ ∀ j, j < xs.length → w.cell? ⟨b, o + j, none⟩ = xs[j]?
theorem Row.below {w w' : World} {A : Option Addr} {xs : List Value} (h : Row w A xs) (hb : Below w.heap.size w w') : Row w' A xs := fun h0 => by
  obtain ⟨b, o, e, hl, hc⟩ := h h0
  exact ⟨b, o, e, Nat.lt_of_lt_of_le hl hb.size, fun j hj => (hb.cell (p := ⟨b, o + j, none⟩) hl).trans (hc j hj)⟩
theorem Row.of_own {w : World} {base n c : Nat} {e : TypeId} {A : Option Addr} {xs : List Value} (h : w.ownsRow base e 1 (.slice A n c) n xs) : Row w A xs := fun h0 => by
  rcases h.2 with ⟨he, h1⟩ | ⟨g, cap, cur, he, hg, hh, _⟩
  · have := h.1; omega
  · injection he with he1 he2 he3
    subst he1 he3
    refine ⟨g, 0, rfl, (Array.getElem?_eq_some_iff.1 hh).1, fun j hj => ?_⟩
    rw [Nat.zero_add]
    exact h.cellAt j (by have := h.1; omega)
theorem Row.at_ {w : World} {A : Option Addr} {xs : List Value} {j : Nat} (h : Row w A xs) (hj : j < xs.length) : ∃ b o, A = some ⟨b, o, none⟩ ∧ b < w.heap.size ∧ w.cell? ⟨b, o + j, none⟩ = some xs[j] := by
  obtain ⟨b, o, e, hl, hc⟩ := h (by omega)
  exact ⟨b, o, e, hl, by rw [hc j hj]; exact List.getElem?_eq_getElem hj⟩
theorem markText_any (k : Nat) (hk : k ≤ 1000000) (w : World) :
    Calls Try.prog 29 #[.int .i64 (k : Int)] w fun e w' => e = .returned (.string ⟨(mtext k).toArray⟩) ∧ Below w.heap.size w w' := by
  by_cases h0 : k = 0
  · subst h0
    go_enter Try.func29, Try.ntmps29
    go_wp2_with fail
    go_ret
    exact ⟨rfl, Below.refl _ _⟩
  · go_enter Try.func29, Try.ntmps29
    go_wp2_with fail
    go_loopw [0, 3] (fun a t wr => ∃ (n : Nat) (s : ByteArray), n ≤ k ∧ a = .int .i64 n ∧ t = .string s ∧ Hid (digs n ++ s.data.toList = digs k) ∧ s.size + n ≤ 1000000 ∧ Below w.heap.size w wr) (fun a _ _ => (intOf a).toNat)
    case atStart => exact ⟨k, _, Nat.le_refl _, rfl, rfl, (by show digs k ++ [] = digs k; simp), (by show 0 + k ≤ _; omega), Below.refl _ _⟩
    case round =>
      obtain ⟨n, s, hn, rfl, rfl, hd, hs, hb⟩ := hrel
      by_cases hz : n = 0
      · subst hz
        have hfin : (({ data := #[109] } : ByteArray) ++ s) = ⟨(mtext k).toArray⟩ := by
          apply WideShapes.bytes_inj
          have hd' := hd.out
          rw [digs_zero, List.nil_append] at hd'
          unfold mtext
          rw [if_neg h0]
          simp [hd']
        have Hfin := Lib.hid hfin
        clear hfin
        go_wp2_with fail
        go_ret
        exact ⟨by simp only [Array.getD]; simp [Hfin.out], hb⟩
      · have hp : 0 < n := by omega
        have hcv := conv_one (P := Try.prog) (w := wr) (src := 22) (dst := 9) Try.underlying22 Try.underlying5 Try.underlying9 (digit_val n)
        have hnext : digs (n / 10) ++ (({ data := #[dch (n % 10)] } : ByteArray) ++ s).data.toList = digs k := by
          rw [← hd.out, digs_step n hp]; simp
        have hsz : (({ data := #[dch (n % 10)] } : ByteArray) ++ s).size = 1 + s.size := by rw [ByteArray.size_append]; rfl
        have Hnext := Lib.hid hnext
        have Hsz := Lib.hid hsz
        have hbs := hb.size
        clear hnext hsz
        go_wp2_with fail
        go_roundw
        case rel => exact ⟨n / 10, _, by omega, by go_num, rfl, Hnext.out, by rw [Hsz.out]; omega, hb.alloc hbs _⟩
        case measure => simp [intOf]; omega
theorem markText_at (k : Nat) (x : Int) (hx : x = (k : Int)) (hk : k ≤ 1000000) (w : World) :
    Calls Try.prog 29 #[.int .i64 x] w fun e w' => e = .returned (.string ⟨(mtext k).toArray⟩) ∧ Below w.heap.size w w' := by
  subst hx; exact markText_any k hk w
def markVals (k n : Nat) : List Value := (List.range n).map fun j => .string ⟨(mtext (k + j)).toArray⟩
theorem markVals_of {ys : List Value} {k n : Nat} (hl : ys.length = n) (h : ∀ j, j < n → ys[j]? = some (.string ⟨(mtext (k + j)).toArray⟩)) : ys = markVals k n := by
  apply List.ext_getElem?
  intro j
  rcases Nat.lt_or_ge j n with hj | hj
  · rw [h j hj]; simp [markVals, hj]
  · rw [List.getElem?_eq_none (by omega), List.getElem?_eq_none (by simp [markVals]; omega)]
theorem marks_set {ys : List Value} {k n i : Nat} {u : Value} (hl : ys.length = n) (h : ∀ j, j < i → ys[j]? = some (.string ⟨(mtext (k + j)).toArray⟩)) (hi : i < n) (hu : u = .string ⟨(mtext (k + i)).toArray⟩) :
    ∀ j, j < i + 1 → (ys.set i u)[j]? = some (.string ⟨(mtext (k + j)).toArray⟩) := by
  intro j hj
  rcases Nat.lt_or_ge j i with h' | h'
  · rw [List.getElem?_set_ne (by omega)]; exact h j h'
  · obtain rfl : j = i := by omega
    rw [List.getElem?_set_self (by omega), hu]
theorem markString_any (base n k : Nat) (v : Value) (xs : List Value) (w : World) (hown : w.ownsRow base 9 1 v n xs) (hb : base ≤ w.heap.size) (hn : n + k ≤ 100000) :
    Calls Try.prog 18 #[v, .int .i64 (k : Int)] w fun e w' => e = .returned (.int .i64 ((k + n : Nat) : Int)) ∧ w'.ownsRow base 9 1 v n (markVals k n) ∧ Below base w w' := by
  obtain ⟨A, m, cp, rfl, rfl⟩ := ownsRow_slice hown
  go_enter Try.func18, Try.ntmps18
  go_wp2_with fail
  go_loopw [1, 5] (fun a i wr => ∃ (j : Nat) (ys : List Value), j ≤ n ∧ a = .int .i64 ((k + j : Nat) : Int) ∧ i = .int .i64 j ∧ wr.ownsRow base 9 1 (.slice A n cp) n ys ∧ Hid (∀ i, i < j → ys[i]? = some (.string ⟨(mtext (k + i)).toArray⟩)) ∧ Below base w wr) (fun _ i _ => n - (intOf i).toNat)
  case atStart => exact ⟨0, xs, Nat.zero_le _, rfl, rfl, hown, fun i hi => by omega, Below.refl _ _⟩
  case round =>
    obtain ⟨j, ys, hj, rfl, rfl, hown, hys, hbr⟩ := hrel
    have hbs : base ≤ wr.heap.size := Nat.le_trans hb hbr.size
    have hyl : ys.length = n := by have := hown.1; omega
    by_cases hlt : j < n
    · obtain ⟨g, rfl, hg, hgl⟩ := own_addr hown (by omega)
      go_wp2_with fail
      refine (markText_at (k + j) _ (by first | rfl | omega) (by omega) wr).mono ?_
      rintro e w1 ⟨rfl, hb1⟩
      have hown1 := own_below hown hb1
      obtain ⟨u0, hu0⟩ : ∃ u, ys[j]? = some u := ⟨_, List.getElem?_eq_getElem (by omega)⟩
      have hc : w1.cell? ⟨g, j, none⟩ = some u0 := by rw [hown1.cellAt j (by omega)]; exact hu0
      clear hu0
      have hf := hown1.frozenAt j
      have hst := hown1.stored j (.string ⟨(mtext (k + j)).toArray⟩)
      have hb2 : Below base w (w1.setCell ⟨g, j, none⟩ (.string ⟨(mtext (k + j)).toArray⟩)) := (hbr.trans (hb1.mono hbs)).setCell hg _
      have Hys := Lib.hid (marks_set hyl hys.out hlt rfl)
      have Hst := Lib.hid hst.1
      have Hown1 := Lib.hid hown1
      have Hb2 := Lib.hid hb2
      have hj0 : (0 : Int) ≤ j := by omega
      clear hst hown1 hb2 hown hyl hb1
      go_wp2_with fail
      go_roundw
      case rel => exact ⟨j + 1, _, by omega, by go_num, by go_num, Hst.out, Hys.out, Hb2.out⟩
      case measure => simp [intOf]; omega
    · obtain rfl : j = n := by omega
      have hm := markVals_of hyl hys.out
      subst hm
      have Hown := Lib.hid hown
      clear hown hyl
      go_wp2_with fail
      go_ret
      exact ⟨by first | rfl | simp, Hown.out, hbr⟩
theorem markText_keep (k : Nat) (x : Int) (hx : x = (k : Int)) (hk : k ≤ 1000000) (p : Addr) (v : Value) (B : Nat) (w0 w : World) (hb : Below B w0 w) (hB : B ≤ w.heap.size) (hc : w.cell? p = some v) :
    Calls Try.prog 29 #[.int .i64 x] w fun e w' => e = .returned (.string ⟨(mtext k).toArray⟩) ∧ w'.cell? p = some v ∧ Below B w0 w' ∧ B ≤ w'.heap.size :=
  (markText_at k x hx hk w).mono fun _ _ ⟨he, hb'⟩ => ⟨he, (hb'.cell (World.block_lt_of_cell? w p hc)).trans hc, hb.trans (hb'.mono hB), Nat.le_trans hB hb'.size⟩
theorem heldString_any (n k cp : Nat) (A : Option Addr) (w : World) (hr : Row w A (markVals k n)) (hn : n + k ≤ 100000) :
    Calls Try.prog 19 #[.slice A n cp, .int .i64 (k : Int)] w fun e w' => e = .returned (.int .i64 ((k + n : Nat) : Int)) ∧ Below w.heap.size w w' := by
  go_enter Try.func19, Try.ntmps19
  go_wp2_with fail
  go_loopw [1, 5] (fun a i wr => ∃ j : Nat, j ≤ n ∧ a = .int .i64 ((k + j : Nat) : Int) ∧ i = .int .i64 j ∧ Below w.heap.size w wr) (fun _ i _ => n - (intOf i).toNat)
  case atStart => exact ⟨0, Nat.zero_le _, rfl, rfl, Below.refl _ _⟩
  case round =>
    obtain ⟨j, hj, rfl, rfl, hbr⟩ := hrel
    by_cases hlt : j < n
    · obtain ⟨b, o, rfl, hbl, hc⟩ := (hr.below hbr).at_ (j := j) (by simpa [markVals] using hlt)
      simp only [markVals, List.getElem_map, List.getElem_range] at hc
      have hj0 : (0 : Int) ≤ j := by omega
      have hj1 : (j : Int) < n := by omega
      clear hr
      have hkj : k + j ≤ 1000000 := by omega
      have hkx := Lib.hid (show (k : Int) + (j : Int) = ((k + j : Nat) : Int) by omega)
      have hbs := hbr.size
      have hbd : Below w.heap.size w wr.drew := hbr.drew
      go_wp2_with fail
      go_region_held3 (fun w' => w'.cell? ⟨b, o + j, none⟩ = some (.string ⟨(mtext (k + j)).toArray⟩) ∧ Below w.heap.size w w' ∧ w.heap.size ≤ w'.heap.size) (first | go_keep | (refine ⟨?_, ?_, ?_⟩ <;> first | assumption | (simp [*]; done))) (first | (go_at_call 29; (with_reducible refine (markText_keep (k + j) ((k : Int) + (j : Int)) hkx.out hkj ⟨b, o + j, none⟩ (.string ⟨(mtext (k + j)).toArray⟩) w.heap.size w _ ?_ ?_ ?_).mono ?_); assumption; assumption; assumption; rintro e w' ⟨rfl, hc1, hb1, hz1⟩))
      all_goals
        go_wp2_with fail
        go_roundw
        case rel => exact ⟨j + 1, by omega, by go_num, by go_num, by assumption⟩
        case measure => simp [intOf]; omega
    · obtain rfl : j = n := by omega
      go_wp2_with fail
      go_ret
      exact ⟨by first | rfl | simp, hbr⟩
theorem eqString_any (n c1 c2 : Nat) (A B : Option Addr) (l : List ByteArray) (w : World) (ha : Row w A (l.map Value.string)) (hb : Row w B (l.map Value.string)) (hl : l.length = n) (hn : n ≤ 100000) :
    Calls Try.prog 17 #[.slice A n c1, .slice B n c2] w fun e w' => e = .returned (.bool true) ∧ Below w.heap.size w w' := by
  have Hl := Lib.hid hl
  clear hl
  go_enter Try.func17, Try.ntmps17
  go_wp2_with fail
  go_loopw [5] (fun i wr => ∃ j : Nat, j ≤ n ∧ i = .int .i64 j ∧ Below w.heap.size w wr) (fun i _ => n - (intOf i).toNat)
  case atStart => exact ⟨0, Nat.zero_le _, rfl, Below.refl _ _⟩
  case round =>
    obtain ⟨j, hj, rfl, hbr⟩ := hrel
    by_cases hlt : j < n
    · have hlj : j < l.length := by rw [Hl.out]; exact hlt
      obtain ⟨b, o, rfl, hbl, hc⟩ := (ha.below hbr).at_ (j := j) (by simpa using hlj)
      obtain ⟨b', o', rfl, hbl', hc'⟩ := (hb.below hbr).at_ (j := j) (by simpa using hlj)
      simp only [List.getElem_map] at hc hc'
      generalize l[j] = s at hc hc'
      have hj0 : (0 : Int) ≤ j := by omega
      have hj1 : (j : Int) < n := by omega
      clear ha hb
      go_wp2_with fail
      go_quiet (fail)
      go_wp2_with fail
      go_roundw
      case rel => exact ⟨j + 1, by omega, by go_num, below_drewN hbr _⟩
      case measure => simp [intOf]; omega
    · go_wp2_with fail
      go_ret
      exact ⟨rfl, hbr⟩
end Go.Proofs.Ytdokgegnpepeeaa
