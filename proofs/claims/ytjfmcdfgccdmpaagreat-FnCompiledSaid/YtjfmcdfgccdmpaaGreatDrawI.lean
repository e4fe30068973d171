/- The draws of stage 12: lists of numbers, inputs, a program with inputs. No condition. -/
import Derived.Test.YtjfmcdfgccdmpaaGreatProg
import Derived.Test.YtjfmcdfgccdmpaaGreatB5
import Derived.Test.YtjfmcdfgccdmpaaGreatIntSS
import Derived.Test.YtjfmcdfgccdmpaaGreatR1
namespace Go.Proofs.YtjfmcdfgccdmpaaGreat
open Go Go.RowKit
/-- Numbers from 0 to below p. -/
def under (p : Int) (zs : List Int) : Prop := ∀ z ∈ zs, 0 ≤ z ∧ z < p
theorem under.snoc {p z : Int} {zs : List Int} (h : under p zs) (hz : 0 ≤ z ∧ z < p) : under p (zs ++ [z]) := fun y hy => by
  rcases List.mem_append.1 hy with h1 | h1
  · exact h y h1
  · simp at h1; subst h1; exact hz
/-- A list of ints that was drawn. -/
def DrawnI (T : TypeId) (B g n : Nat) (p : Int) (w : World) (e : Ending) (w' : World) : Prop :=
  ∃ (A : Option Addr) (c : Nat) (zs : List Int), e = .returned (.slice A n c) ∧ zs.length = n ∧ under p zs ∧ OwnI w.heap.size w'.heap.size w' (.slice A n c) n zs ∧ RunD T B g w w'
theorem l03List_any (B g n : Nat) (p : Int) (w : World) (hc : Cur 77 B w g) (hp : 0 < p) (hn : n ≤ 1000000) :
    Calls Tryz.prog 33 #[.pointer (some ⟨g, 0, none⟩), .int .i64 p, .int .i64 n] w (DrawnI 77 B g n p w) := by
  go_enter Tryz.func33, Tryz.ntmps33
  go_wp2_with fail
  go_loopw [7, 8] (fun v i wr => ∃ l : List Int, l.length ≤ n ∧ i = .int .i64 (l.length : Int) ∧ under p l ∧ wr.ownsRow w.heap.size 3 1 v l.length (intVals l) ∧ RunD 77 B g w wr) (fun _ i _ => n - (intOf i).toNat)
  case atStart => exact ⟨[], Nat.zero_le _, rfl, (by intro z hz; simp at hz), World.ownsRow_made w #[] 0 (Nat.le_refl _) (by unfold maxLen; omega) rfl, (RunD.start hc).alloc _⟩
  case round =>
    obtain ⟨l, hl, rfl, hpl, hown, R⟩ := hrel
    by_cases hlt : l.length < n
    · go_wp2_with fail
      refine (l01Below_any _ g p wr R.cur).mono ?_
      rintro e w2 ⟨z, rfl, ⟨_, hz⟩, hc2, hg2⟩
      replace hz := hz hp
      have R2 := R.next hc2 hg2
      have hown1 := own_cur hown hg2 R.lt
      have hs2 := R2.size
      have Hpl := Lib.hid (hpl.snoc hz)
      clear hown R hg2 hc2 hpl hz
      go_wp2_with (first | (at_builtin; refine app_list (e' := 3) elemInt rfl _ _ rfl w.heap.size _ l.length (intVals l) rfl (hown1.alloc _) w2.heap.size 1 1 _ (0, 0) rfl (heap_alloc_new w2 _) rfl (oneCell_i64 [_]) (by omega) (by unfold maxLen; omega) (by omega) (by simp; omega) (w2.heap.size + 1) (by simp) ?_))
      intro g2 cap w3 hown2 hgrow hat hgl2
      rw [show intVals l ++ (#[Value.int .i64 z] : Array Value).toList = intVals (l ++ [z]) by simp [intVals]] at hown2
      have R3 := (R2.alloc _).own (hown1.alloc _) hgrow (Nat.le_refl _)
      have hll : (l ++ [z]).length = l.length + 1 := by simp
      rw [← hll] at hown2
      have Hown2 := Lib.hid hown2
      have HR := Lib.hid R3
      have Hll := Lib.hid hll
      clear hown2 R3 hll hown1 hgrow R2
      go_wp2_with fail
      go_roundw
      case rel => exact ⟨_, by rw [Hll.out]; omega, by rw [Hll.out]; go_num, Hpl.out, by simpa using Hown2.out, HR.out⟩
      case measure => simp [intOf]; omega
    · have hle : l.length = n := by omega
      rw [hle] at hown
      obtain ⟨A, m, c, rfl, rfl⟩ := ownsRow_slice hown
      have Hle := Lib.hid hle
      have Hown := Lib.hid (OwnI.of_own hown)
      have HR := Lib.hid R
      clear hle hown R
      go_wp2_with fail
      go_ret
      exact ⟨A, c, l, rfl, Hle.out, hpl, Hown.out, HR.out⟩
theorem getD_left {us : List Value} {u : Value} {j : Nat} (h : j < us.length) : (us ++ [u]).getD j undef = us.getD j undef := by
  rw [List.getD_eq_getElem?_getD, List.getD_eq_getElem?_getD, List.getElem?_append_left h]
theorem getD_last {us : List Value} {u : Value} {n : Nat} (h : us.length = n) : (us ++ [u]).getD n undef = u := by
  subst h
  rw [List.getD_eq_getElem?_getD, List.getElem?_append_right (Nat.le_refl _), Nat.sub_self]; rfl
theorem rowD_left {rs : List (List Int)} {r : List Int} {j : Nat} (h : j < rs.length) : (rs ++ [r]).getD j [] = rs.getD j [] := by
  rw [List.getD_eq_getElem?_getD, List.getD_eq_getElem?_getD, List.getElem?_append_left h]
theorem rowD_last {rs : List (List Int)} {r : List Int} {n : Nat} (h : rs.length = n) : (rs ++ [r]).getD n [] = r := by
  subst h
  rw [List.getD_eq_getElem?_getD, List.getElem?_append_right (Nat.le_refl _), Nat.sub_self]; rfl
/-- A row is appended. -/
theorem OwnSS.snoc {lo hi lo2 hi2 n m g3 cap : Nat} {w w7 : World} {v u : Value} {us : List Value} {rs : List (List Int)} {xs : List Int} {te : TypeId} {o : Obj} (h : OwnSS lo hi w v n us rs) (hr : OwnA 1 lo2 hi2 w u m xs) (hlo : lo ≤ lo2) (hd : hi ≤ lo2)
    (ho : w7.ownsRow lo te 1 (.slice (some ⟨g3, 0, none⟩) (n + 1) cap) (n + 1) (us ++ [u])) (hg : (w.alloc o).grownBy w7 v.ownBlock) (hat : v.ownBlock = some g3 ∨ g3 = w.heap.size + 1) :
    OwnSS lo w7.heap.size w7 (.slice (some ⟨g3, 0, none⟩) (n + 1) cap) (n + 1) (us ++ [u]) (rs ++ [xs]) := by
  have hul := h.ulen
  have hrl := h.len
  have hm := hr.len1
  have hs := hg.size
  simp at hs
  have hvu : apart u v := fun k e e' => by have := (hr.ltB e).1; have := h.top k e'; omega
  have row : ∀ j, j < n → OwnA 1 lo w7.heap.size w7 (us.getD j undef) (rs.getD j []).length (rs.getD j []) := fun j hj => by
    obtain ⟨e, k⟩ := (((h.row j hj).alloc o).keep hg (h.out j hj).symm).own
    exact OwnA.of_own k
  have last : OwnA 1 lo w7.heap.size w7 u m xs := by
    obtain ⟨e, k⟩ := ((hr.alloc o).keep hg hvu).own
    exact (OwnA.of_own k).wide hlo (Nat.le_refl _)
  have new : ∀ {z : Value}, (∀ k, z.ownBlock = some k → k < w.heap.size) → apart v z → apart (.slice (some ⟨g3, 0, none⟩) (n + 1) cap) z := fun hz ha k e e' => by
    have e2 : g3 = k := by simpa [Value.ownBlock] using e
    subst e2
    rcases hat with e3 | e3
    · exact ha _ e3 e'
    · have := hz _ e'; omega
  refine ⟨⟨te, ho⟩, fun k e => (ho.lt k e).2, by simp [hrl], fun j hj => ?_, fun j hj => ?_, fun i j hij hj => ?_⟩
  · rcases Nat.lt_or_ge j n with h1 | h1
    · rw [getD_left (by omega), rowD_left (by omega)]
      exact row j h1
    · obtain rfl : j = n := by omega
      rw [getD_last hul, rowD_last hrl, hm]
      exact last
  · rcases Nat.lt_or_ge j n with h1 | h1
    · rw [getD_left (by omega)]
      exact new (fun k e => ((h.row j h1).lt e).2) (h.out j h1)
    · obtain rfl : j = n := by omega
      rw [getD_last hul]
      exact new (fun k e => (hr.lt e).2) hvu.symm
  · rcases Nat.lt_or_ge j n with h1 | h1
    · rw [getD_left (by omega), getD_left (by omega)]
      exact h.ap i j hij h1
    · obtain rfl : j = n := by omega
      rw [getD_left (by omega), getD_last hul]
      exact (h.row i hij).apart_of hr hd
theorem OwnSS.empty (w : World) (base : Nat) (te : TypeId) (hb : base ≤ w.heap.size) : OwnSS base (w.heap.size + 1) (w.alloc (.cells #[] te)) (.slice (some ⟨w.heap.size, 0, none⟩) 0 0) 0 [] [] :=
  ⟨⟨te, World.ownsRow_made (e := te) (size := 1) (base := base) w #[] 0 hb (by unfold maxLen; omega) rfl⟩, fun k e => by simp [Value.ownBlock] at e; omega, rfl, fun j hj => by omega, fun j hj => by omega, fun i j _ hj => by omega⟩
theorem OwnSS.grown {lo hi n : Nat} {w w1 : World} {v : Value} {us : List Value} {rs : List (List Int)} {row : Option Nat} (h : OwnSS lo hi w v n us rs) (hg : w.grownBy w1 row) (hr : ∀ k, row = some k → k < lo ∨ hi ≤ k) : OwnSS lo hi w1 v n us rs := by
  obtain ⟨⟨e, ho⟩, ht, hl, hro, hou, hap⟩ := h
  have far : ∀ {m : Nat} {u : Value} {te : TypeId} {xs : List Value}, w.ownsRow lo te 1 u m xs → (∀ k, u.ownBlock = some k → k < hi) → w1.ownsRow lo te 1 u m xs := fun {m u te xs} k kt => k.kept hg (by
    rcases hv : u.ownBlock with _ | b
    · exact .inl rfl
    · refine .inr (fun e => ?_)
      have h1 := hr b e.symm
      have h2 := kt b hv
      have h3 := (k.lt b hv).1
      omega)
  exact ⟨⟨e, far ho ht⟩, ht, hl, fun j hj => by obtain ⟨te, k⟩ := (hro j hj).own; exact ⟨⟨te, far k (hro j hj).top⟩, (hro j hj).top⟩, hou, hap⟩
theorem elemInts : Elem Tryz.prog 25 29 1 24 := ⟨Tryz.underlying25, by
  obtain ⟨i, hi, hz, h1, h2⟩ := info_parts (show (Tryz.prog.info? 29).map (fun i => (i.zero, i.size, i.bytes)) = some (some (.slice none 0 0), 1, 24) by kernel_rfl)
  exact ⟨i, _, hi, hz, h1, h2, rfl⟩, by omega⟩
theorem oneCell_slice (u : Value) (h : u.oneCell' = true) : ∀ x ∈ (#[u] : Array Value).toList, x.oneCell' = true := fun x hx => by simp at hx; subst hx; exact h
theorem rows_snoc {rs : List (List Int)} {r : List Int} (h : ∀ r ∈ rs, rowOk r) (hr : rowOk r) : ∀ x ∈ rs ++ [r], rowOk x := fun x hx => by
  rcases List.mem_append.1 hx with h1 | h1
  · exact h x h1
  · simp at h1; subst h1; exact hr
set_option maxRecDepth 100000 in
theorem l12Inputs_any (B g : Nat) (w : World) (hc : Cur 77 B w g) :
    Calls Tryz.prog 15 #[.pointer (some ⟨g, 0, none⟩)] w fun e w' => ∃ (A : Option Addr) (c : Nat) (us : List Value) (I : List (List Int)), e = .returned (.slice A 5 c) ∧ insOk I ∧ OwnSS w.heap.size w'.heap.size w' (.slice A 5 c) 5 us I ∧ RunD 77 B g w w' := by
  go_enter Tryz.func15, Tryz.ntmps15
  go_wp2_with fail
  go_loopw [3, 4] (fun v i wr => ∃ (k : Nat) (us : List Value) (rs : List (List Int)), k ≤ 5 ∧ i = .int .i64 (k : Int) ∧ OwnSS w.heap.size wr.heap.size wr v k us rs ∧ wr.ownsRow w.heap.size 29 1 v k us ∧ Hid (∀ r ∈ rs, rowOk r) ∧ RunD 77 B g w wr) (fun _ i _ => 5 - (intOf i).toNat)
  case atStart => exact ⟨0, [], [], by omega, rfl, (OwnSS.empty w w.heap.size 29 (Nat.le_refl _)).wide (Nat.le_refl _) (by simp), World.ownsRow_made (e := 29) (size := 1) (base := w.heap.size) w #[] 0 (Nat.le_refl _) (by unfold maxLen; omega) rfl, fun r h => by simp at h, (RunD.start hc).alloc _⟩
  case round =>
    obtain ⟨k, us, rs, hk, rfl, hown, hty, hok, R⟩ := hrel
    by_cases hlt : k < 5
    · have k1 : (k : Int) < 5 := by omega
      go_wp2_with fail
      refine (l03List_any B g 4 16 wr R.cur (by omega) (by omega)).mono ?_
      rintro e w2 ⟨A, c, zs, rfl, hz4, hu, hz, Rz⟩
      have R2 := R.next Rz.cur Rz.gr
      have hlt2 := R.lt
      have hsz := Rz.size
      have hws := R.size
      have hown1 := hown.grown Rz.gr (fun b e => by injection e with e; omega)
      have hty1 := own_cur hty Rz.gr hlt2
      have Hok := Lib.hid (rows_snoc hok.out (r := zs) ⟨hz4, fun z hz => by have := hu z hz; omega⟩)
      have hza := hz.any
      clear hown hty R Rz hz hok hu hz4
      go_wp2_with (first | (at_builtin; refine app_list (e' := 29) elemInts rfl _ _ rfl w.heap.size _ k us rfl (hty1.alloc _) w2.heap.size 1 1 _ (0, 0) rfl (heap_alloc_new w2 _) rfl (oneCell_slice _ rfl) (by omega) (by unfold maxLen; omega) (by omega) (by simp; omega) (w2.heap.size + 1) (by simp) ?_))
      intro g3 cap w3 ho3 hg3 hat hl3
      have o3 := hown1.snoc hza hws (Nat.le_refl _) ho3 hg3 hat
      have R3 := (R2.alloc _).own (hty1.alloc _) hg3 (Nat.le_refl _)
      have O3 := Lib.hid o3
      have HO := Lib.hid ho3
      have HR := Lib.hid R3
      clear o3 ho3 hg3 hat R3 R2 hty1 hown1 hza
      go_wp2_with fail
      go_roundw
      case rel => exact ⟨k + 1, _, _, by omega, by go_num, O3.out, HO.out, Hok.out, HR.out⟩
      case measure => simp [intOf]; omega
    · obtain rfl : k = 5 := by omega
      obtain ⟨A, c, rfl⟩ := hown.form
      have HO := Lib.hid hown
      have HR := Lib.hid R
      have HK := Lib.hid (show insOk rs from ⟨hown.len, hok.out⟩)
      clear hown hty hok R
      go_wp2_with fail
      go_ret
      exact ⟨A, c, us, rs, rfl, HK.out, HO.out, HR.out⟩
/-- A program and inputs that were drawn. -/
def NewRun (w : World) (e : Ending) (w' : World) : Prop :=
  ∃ (A1 : Option Addr) (m1 c1 : Nat) (ss : List St) (A2 : Option Addr) (c2 : Nat) (I : List (List Int)), e = .returned (.tuple #[.slice A1 m1 c1, .slice A2 5 c2]) ∧ ss.length = m1 ∧ DrawnP ss ∧ Ints w' A1 (flat ss) ∧ insOk I ∧ Rows w'.heap.size w' A2 I ∧ Below w.heap.size w w'
theorem DrawRun_any (A : Option Addr) (n c : Nat) (w : World) (hb : Bytes w.heap.size w A n) (hn : n ≤ 2000000) :
    Calls Tryz.prog 5 #[.slice A n c] w (NewRun w) := by
  go_enter Tryz.func5, Tryz.ntmps5
  go_wp2_with fail
  refine (l01New_any A n c w hb hn).mono ?_
  rintro e w1 ⟨g, rfl, hc1, hb1⟩
  have hgl := hc1.lt
  go_wp2_with fail
  refine (l08Case_any _ g w1 hc1).mono ?_
  rintro e w2 ⟨A1, m1, c1, ss, rfl, hl, hP, o1, R1⟩
  have i1 := (OwnS.ints o1).1.bound
  have hs1 := R1.size
  clear hb
  go_wp2_with fail
  refine (l12Inputs_any _ g w2 R1.cur).mono ?_
  rintro e w3 ⟨A2, c2, us, I, rfl, hI, o2, R2⟩
  have o1' := own_cur o1 R2.gr hgl
  have i3 := (OwnS.ints o1').1
  have low := below_cur hb1 hc1 (R1.gr.trans R2.gr)
  have r2 := o2.ints
  have HL := Lib.hid hl
  have HP := Lib.hid hP
  have HI := Lib.hid hI
  have H3 := Lib.hid i3
  have HR := Lib.hid r2
  have HB := Lib.hid low
  clear hl hP hI i3 r2 low o1 o1' o2 R1 R2 i1
  go_wp2_with fail
  go_ret2
  exact ⟨A1, m1, c1, ss, A2, c2, I, rfl, HL.out, HP.out, H3.out, HI.out, HR.out, HB.out⟩
end Go.Proofs.YtjfmcdfgccdmpaaGreat
