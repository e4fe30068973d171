/- The program's evaluation of a polynomial. -/
import Derived.Test.YtcjgoonkdjaccaaProg
import Derived.Test.YtcjgoonkdjaccaaPolyB
namespace Go.Proofs.Ytcjgoonkdjaccaa
open Go Go.RowKit Go.Shelf
attribute [local go_sem] Oper.semAt_some
/-- Horner's rule over what has come. -/
def hornE (p x : Int) (pre : List (ElI p)) : Int := pre.foldl (fun s a => ((s * x) % p + a.1.2) % p) 0
theorem hornE_snoc (p x : Int) (pre : List (ElI p)) (a : ElI p) : hornE p x (pre ++ [a]) = ((hornE p x pre * x) % p + a.1.2) % p := by simp [hornE]
theorem hornE_el {p : Int} (hp : isP p) (x : Int) (pre : List (ElI p)) : isEl p (hornE p x pre) := by
  rcases List.eq_nil_or_concat pre with rfl | ⟨q, a, rfl⟩
  · exact isEl_zero hp
  · rw [List.concat_eq_append, hornE_snoc]; exact isEl_mod hp _
theorem hornE_is (p x : Int) (zs : List Int) (ys : List (ElI p)) (h : ys.map (fun a => a.1.2) = zs.reverse) : hornE p x ys = atI p zs x := by
  have e : hornE p x ys = (zs.reverse).foldl (fun s c => ((s * x) % p + c) % p) 0 := by rw [← h, List.foldl_map]; rfl
  rw [e, List.foldl_reverse]
  clear e h
  induction zs with
  | nil => rfl
  | cons c cs ih =>
    rw [List.foldr_cons, ih, atI_cons]
    simp only [Int.emod_add_emod]
/-- Two cells of a block that may be written. -/
def Two (W : World) (B : Nat) (u v : Value) : Prop := W.heap[B]? = some (.cells #[u, v] 59 (0, 0))
theorem Two.at_ {W : World} {B : Nat} {u v : Value} (h : Two W B u v) : W.cell? ⟨B, 0, none⟩ = some u ∧ W.cell? ⟨B, 1, none⟩ = some v ∧ W.frozen? ⟨B, 0, none⟩ = false ∧ W.frozen? ⟨B, 1, none⟩ = false := by
  obtain ⟨c0, f0⟩ := blk (i := 0) h rfl
  obtain ⟨c1, f1⟩ := blk (i := 1) h rfl
  exact ⟨c0, c1, f0, f1⟩
theorem Two.kept {W W' : World} {row : Option Nat} {B : Nat} {u v : Value} (h : Two W B u v) (hg : W.grownBy W' row) (hr : ∀ r, row = some r → ∃ o : Obj, W.heap[r]? = some o ∧ o.isCells = false) : Two W' B u v := by
  refine (hg.block B (Array.getElem?_eq_some_iff.1 h).1 (fun e => ?_)).trans h
  obtain ⟨o, ho, hc⟩ := hr B e.symm
  rw [show W.heap[B]? = _ from h] at ho
  cases ho
  cases hc
theorem Two.lt {W : World} {B : Nat} {u v : Value} (h : Two W B u v) : B < W.heap.size := heap_lt h
theorem Two.below {W W' : World} {B : Nat} {u v : Value} (h : Two W B u v) (hb : Below W.heap.size W W') : Two W' B u v := heap_below h hb
theorem Two.alloc {W : World} {B : Nat} {u v : Value} (h : Two W B u v) (o : Obj) : Two (W.alloc o) B u v := heap_alloc h o
theorem Two.next {W1 W' : World} (hb : Below W1.heap.size W1 W') {B : Nat} {u v : Value} (h : Two W1 B u v) : Two W' B u v := heap_below h hb
theorem Two.set {W : World} {B : Nat} {u v : Value} (h : Two W B u v) (x y : Value) : Two ((W.setCell ⟨B, 0, none⟩ x).setCell ⟨B, 1, none⟩ y) B x y := by
  exact box2_set h x y
theorem Two.other {W : World} {B B' : Nat} {u v : Value} (h : Two W B' u v) (hne : B' ≠ B) (x y : Value) : Two ((W.setCell ⟨B, 0, none⟩ x).setCell ⟨B, 1, none⟩ y) B' u v := by
  unfold Two
  rw [box2_other hne]
  exact h
set_option maxRecDepth 100000 in
set_option maxHeartbeats 4000000 in
theorem impl_evaluate (p : Int) (A : Option Addr) (n c : Nat) (zs : List Int) (x : Int) (w : World) (hE : ElsB w.heap.size w A p zs) (hl : zs.length = n) (hm : n ≤ 2000000) (ha : ∀ z ∈ zs, isEl p z) (hx : isEl p x) :
    Calls Try.prog 49 #[.agg #[.int .i64 p, .int .i64 0], .slice A n c, .agg #[.int .i64 p, .int .i64 x]] w fun e w' => e = .returned (.agg #[.int .i64 p, .int .i64 (atI p zs x)]) ∧ Below w.heap.size w w' := by
  refine (callsIn_wide (n := 7)).1 ?_
  have hro : Fence.wide.round = none := rfl
  refine callsIn_of_wp_marks Try.func49 rfl trivial ?_ hro
  simp only [Try.ntmps49, List.size_toArray, List.length_cons, List.length_nil, Nat.reduceAdd, Nat.reduceSub, Array.replicate_succ, Array.replicate_zero, List.push_toArray, List.append_toArray, List.nil_append, List.cons_append]
  gi_wp2_with (refine ⟨trivial, ?_⟩; gi_at_call 78; refine (back_in Fence.wide _ trivial hro _ _ _ _).mono ?_; rintro e w' ⟨rfl, rfl⟩)
  have hB0 : Below w.heap.size w (((((w.alloc (.cells #[.int .i64 p, .int .i64 0] 59)).alloc (.cells #[.int .i64 p, .int .i64 x] 59)).alloc (.cells #[.int .i64 0, .int .i64 0] 59)).alloc (.cells #[.int .i64 p, .int .i64 0] 59)).alloc (.cells #[.slice A n c] 62)) :=
    (((((Below.refl _ w).alloc (Nat.le_refl _) _).alloc (by simp) _).alloc (by simp; omega) _).alloc (by simp; omega) _).alloc (by simp; omega) _
  have hsz : (((((w.alloc (.cells #[.int .i64 p, .int .i64 0] 59)).alloc (.cells #[.int .i64 p, .int .i64 x] 59)).alloc (.cells #[.int .i64 0, .int .i64 0] 59)).alloc (.cells #[.int .i64 p, .int .i64 0] 59)).alloc (.cells #[.slice A n c] 62)).heap.size = w.heap.size + 5 := by simp
  have t1 : Two _ _ _ _ := (((show Two ((w.alloc (.cells #[.int .i64 p, .int .i64 0] 59)).alloc (.cells #[.int .i64 p, .int .i64 x] 59)) (w.alloc (.cells #[.int .i64 p, .int .i64 0] 59)).heap.size (.int .i64 p) (.int .i64 x) from heap_alloc_new _ _).alloc (.cells #[.int .i64 0, .int .i64 0] 59)).alloc (.cells #[.int .i64 p, .int .i64 0] 59)).alloc (.cells #[.slice A n c] 62)
  have t2 : Two _ _ _ _ := ((show Two (((w.alloc (.cells #[.int .i64 p, .int .i64 0] 59)).alloc (.cells #[.int .i64 p, .int .i64 x] 59)).alloc (.cells #[.int .i64 0, .int .i64 0] 59)) ((w.alloc (.cells #[.int .i64 p, .int .i64 0] 59)).alloc (.cells #[.int .i64 p, .int .i64 x] 59)).heap.size (.int .i64 0) (.int .i64 0) from heap_alloc_new _ _).alloc (.cells #[.int .i64 p, .int .i64 0] 59)).alloc (.cells #[.slice A n c] 62)
  have t3 : Two _ _ _ _ := (show Two ((((w.alloc (.cells #[.int .i64 p, .int .i64 0] 59)).alloc (.cells #[.int .i64 p, .int .i64 x] 59)).alloc (.cells #[.int .i64 0, .int .i64 0] 59)).alloc (.cells #[.int .i64 p, .int .i64 0] 59)) (((w.alloc (.cells #[.int .i64 p, .int .i64 0] 59)).alloc (.cells #[.int .i64 p, .int .i64 x] 59)).alloc (.cells #[.int .i64 0, .int .i64 0] 59)).heap.size (.int .i64 p) (.int .i64 0) from heap_alloc_new _ _).alloc (.cells #[.slice A n c] 62)
  have t4 := (blk (i := 0) (heap_alloc_new ((((w.alloc (.cells #[.int .i64 p, .int .i64 0] 59)).alloc (.cells #[.int .i64 p, .int .i64 x] 59)).alloc (.cells #[.int .i64 0, .int .i64 0] 59)).alloc (.cells #[.int .i64 p, .int .i64 0] 59)) (.cells #[.slice A n c] 62)) rfl).1
  simp only [World.size_alloc] at t1 t2 t3 t4
  generalize ((((w.alloc (.cells #[.int .i64 p, .int .i64 0] 59)).alloc (.cells #[.int .i64 p, .int .i64 x] 59)).alloc (.cells #[.int .i64 0, .int .i64 0] 59)).alloc (.cells #[.int .i64 p, .int .i64 0] 59)).alloc (.cells #[.slice A n c] 62) = W0 at *
  have hp := hx.1
  refine wpIn_rangeFunc_ownH hro (by omega) (gf := 96) (lb := #[.pointer (some ⟨w.heap.size + 1 + 1 + 1 + 1, 0, none⟩)]) rfl trivial (enters_of Try.func96 (by kernel_rfl) rfl)
    (back_stops Fence.wide _ trivial hro (by omega) (w.heap.size + 1 + 1 + 1 + 1) w.heap.size n c A p zs ha hl hm W0 (by omega) (by omega) t4 (hE.below hB0)) KpE.trans (KpE.put (by omega) (by omega)) (Below.refl _ _) (fun _ => rfl)
    (fun pre W => (Two W (w.heap.size + 1) (.int .i64 p) (.int .i64 x) ∧ Two W (w.heap.size + 1 + 1) (.int .i64 0) (.int .i64 0) ∧ Two W (w.heap.size + 1 + 1 + 1) (.int .i64 p) (.int .i64 (hornE p x pre)) ∧ w.heap.size + 1 + 1 + 1 + 1 < W.heap.size) ∧ Below w.heap.size w W)
    (fun _ _ _ => False)
    (OwnFrom.and (Own.from (fun s A B row hs hg hr => ⟨hs.1.kept hg hr, hs.2.1.kept hg hr, hs.2.2.1.kept hg hr, Nat.lt_of_lt_of_le hs.2.2.2 hg.size⟩) _) (ownFrom_below (Nat.le_refl _) (by omega)))
    (fun _ _ _ _ _ hs _ _ => hs)
    ⟨⟨t1, t2, t3, by omega⟩, hB0⟩
    (fun a a' W => ∃ Bx, w.heap.size + 1 + 1 + 1 + 1 < Bx ∧ Two W Bx (.int .i64 p) (.int .i64 a.1.2) ∧ a' = { tmps := #[.agg #[.int .i64 p, .int .i64 0], .slice A n c, .agg #[.int .i64 p, .int .i64 x], .pointer (some ⟨w.heap.size, 0, none⟩), undef, .pointer (some ⟨w.heap.size + 1, 0, none⟩), .pointer (some ⟨w.heap.size + 1 + 1, 0, none⟩), .pointer (some ⟨w.heap.size + 1 + 1 + 1, 0, none⟩), undef, .pointer (some ⟨Bx, 0, none⟩), .agg #[.int .i64 p, .int .i64 0], .slice A n c, .func (.func 96) #[] #[.pointer (some ⟨w.heap.size + 1 + 1 + 1 + 1, 0, none⟩)], .int .i64 a.1.1, .agg #[.int .i64 p, .int .i64 a.1.2], undef, undef, undef, undef, undef, undef, undef, undef], defers := [] })
    (fun a a' _ X Y row hs hg hr => by obtain ⟨Bx, h1, h2, h3⟩ := hs; exact ⟨Bx, h1, h2.kept hg (fun r e => (hr r e).2), h3⟩)
    ?assign ?body ?done ?stop
  case assign =>
    rintro l pre a W K ⟨⟨h1, h2, h3, h4⟩, hB⟩ hK
    unfold encE
    gi_wp2
    exact hK _ _ ((KeepsOthers.alloc _ _).from _) ⟨(Below.refl _ W).alloc hB.size _, Below.heap_alloc W _ _ h4⟩ ⟨⟨h1.alloc _, h2.alloc _, h3.alloc _, by simp; omega⟩, hB.alloc hB.size _⟩ ⟨W.heap.size, h4, heap_alloc_new _ _, rfl⟩
  case body =>
    rintro l pre a a' W hl ⟨r, hr⟩ ⟨⟨h1, h2, h3, h4⟩, hB⟩ ⟨Bx, hBx, hX, rfl⟩ hlt
    have hel := a.2
    have hh := hornE_el hp x pre
    have hm1 : ∀ (z : Int) (w : World), (method 215 59 (.agg #[.int .i64 p, .int .i64 z]) "loop.example/g00979/impl.times").run Try.prog w = .ok (74, .agg #[.int .i64 p, .int .i64 z]) w := fun _ _ => by kernel_rfl
    have hm2 : ∀ (z : Int) (w : World), (method 215 59 (.agg #[.int .i64 p, .int .i64 z]) "loop.example/g00979/impl.plus").run Try.prog w = .ok (73, .agg #[.int .i64 p, .int .i64 z]) w := fun _ _ => by kernel_rfl
    have hmx : Try.prog.follows .mixedOrders = true := by kernel_rfl
    obtain ⟨a10, a11, _, _⟩ := h1.at_
    obtain ⟨a30, a31, f30, f31⟩ := h3.at_
    obtain ⟨ax0, ax1, _, _⟩ := hX.at_
    gi_wp2
    have hlow : Below W.heap.size W W := Below.refl _ _
    have H1 := Lib.hid h1
    have H2 := Lib.hid h2
    have H3 := Lib.hid h3
    have HX := Lib.hid hX
    have HB := Lib.hid hB
    have H4 := Lib.hid h4
    have HZ := Lib.hid hsz
    have HBx := Lib.hid hBx
    clear h1 h2 h3 hX hB h4 hsz hBx hB0 t1 t2 t3 t4 hE hl ha hr hlt hm
    gi_region_with_o (first
      | (refine ⟨trivial, ?_⟩; gi_at_call 74; refine (CallsIn.inRound l (callsIn_wide.2 (impl_times p _ _ hh hx _))).mono ?_; rintro e w' ⟨rfl, hb⟩; replace hlow := hlow.drew.trans (hb.mono hlow.size); obtain ⟨a30, a31, f30, f31⟩ := (Two.next hlow H3.out).at_; obtain ⟨ax0, ax1, _, _⟩ := (Two.next hlow HX.out).at_; clear hb)
      | (refine ⟨trivial, ?_⟩; gi_at_call 73; refine (CallsIn.inRound l (callsIn_wide.2 (impl_plus p _ _ (isEl_mod hp _) hel _))).mono ?_; rintro e w' ⟨rfl, hb⟩; replace hlow := hlow.trans (hb.mono hlow.size); obtain ⟨a30, a31, f30, f31⟩ := (Two.next hlow H3.out).at_; obtain ⟨ax0, ax1, _, _⟩ := (Two.next hlow HX.out).at_; clear hb))
    all_goals
      have h1 := Two.next hlow H1.out
      have h2 := Two.next hlow H2.out
      have h3 := Two.next hlow H3.out
      have hB := HB.out
      have h4 := H4.out
      have hsz := HZ.out
      have hsn : hornE p x (pre ++ [a]) = (hornE p x pre * x + a.1.2) % p := by rw [hornE_snoc, Int.emod_add_emod]
      generalize (hornE p x pre * x + a.1.2) % p = z at *
      have s3 := h3.set (.int .i64 p) (.int .i64 z)
      have s1 := h1.other (B := w.heap.size + 1 + 1 + 1) (by omega) (.int .i64 p) (.int .i64 z)
      have s2 := h2.other (B := w.heap.size + 1 + 1 + 1) (by omega) (.int .i64 p) (.int .i64 z)
      have hw := hlow.size
      have hkf : KeepsFrom W0.heap.size W ((w'.setCell ⟨w.heap.size + 1 + 1 + 1, 0, none⟩ (.int .i64 p)).setCell ⟨w.heap.size + 1 + 1 + 1, 1, none⟩ (.int .i64 z)) :=
        ⟨by simpa using hw, fun k o hk hko ho => by rw [box2_other (by omega)]; exact (hlow.block k (Array.getElem?_eq_some_iff.1 hko).1).trans hko⟩
      have hkb : Below w.heap.size W ((w'.setCell ⟨w.heap.size + 1 + 1 + 1, 0, none⟩ (.int .i64 p)).setCell ⟨w.heap.size + 1 + 1 + 1, 1, none⟩ (.int .i64 z)) :=
        ((hlow.mono hB.size).setCell (p := ⟨w.heap.size + 1 + 1 + 1, 0, none⟩) (by simp; omega) _).setCell (p := ⟨w.heap.size + 1 + 1 + 1, 1, none⟩) (by simp; omega) _
      exact ⟨hkf, ⟨hkb, by rw [box2_other (by omega)]; exact hlow.block _ h4⟩, ⟨s1, s2, by rw [hsn]; exact s3, by simp; omega⟩, hB.trans hkb⟩
  case done =>
    rintro D ys W hD hys ⟨⟨h1, h2, h3, h4⟩, hB⟩ hK
    rw [hornE_is p x zs ys hys] at h3
    obtain ⟨c20, c21, f20, f21⟩ := h2.at_
    obtain ⟨c30, c31, f30, f31⟩ := h3.at_
    gi_wp2
    have r2 := h2.set (.int .i64 p) (.int .i64 (atI p zs x))
    have hK' := (KeepsOthers.setCell (W.setCell ⟨w.heap.size + 1 + 1, 0, none⟩ (.int .i64 p)) ⟨w.heap.size + 1 + 1, 1, none⟩ (.int .i64 (atI p zs x))).same D _ ((KeepsOthers.setCell W ⟨w.heap.size + 1 + 1, 0, none⟩ (.int .i64 p)).same D _ hK rfl) rfl
    have hkb : Below w.heap.size w ((W.setCell ⟨w.heap.size + 1 + 1, 0, none⟩ (.int .i64 p)).setCell ⟨w.heap.size + 1 + 1, 1, none⟩ (.int .i64 (atI p zs x))) :=
      (hB.setCell (p := ⟨w.heap.size + 1 + 1, 0, none⟩) (by simp; omega) _).setCell (p := ⟨w.heap.size + 1 + 1, 1, none⟩) (by simp; omega) _
    have r3 := r2.kept (grownBy_putObj' _ D (.deferred none)) (fun r e => by cases e; exact ⟨_, hK', rfl⟩)
    refine ⟨by simp, .inl ⟨_, _, rfl, run_takeDeferred hK', ?_⟩⟩
    exact ⟨_, results_cell_row (P := Try.prog) rfl _ _ (w.heap.size + 1 + 1) 59 _ (0, 0) _ rfl r3 Try.underlying59 rfl (by kernel_rfl), rfl, hkb.trans (belowK_b (w := w) (Nat.le_refl _) _ D _ _ (by omega) hK' rfl rfl)⟩
  case stop =>
    rintro D k pre W _ _ h _
    exact h.elim
end Go.Proofs.Ytcjgoonkdjaccaa
