/- The program's ParseProgram. -/
import Derived.Test.YtjclhlicginekaaGreatDoorProg
import Derived.Test.YtjclhlicginekaaGreatDoorSpl
import Derived.Test.YtjclhlicginekaaGreatDoorSrcP
import Derived.Test.YtjclhlicginekaaGreatDoorPg8
import Derived.Test.YtjclhlicginekaaGreatDoorStmtA
namespace Go.Proofs.YtjclhlicginekaaGreatDoor
open Go Go.RowKit
/-- The answer of ParseProgram: a list of the call's own, and a number. -/
def PpPost (R : List St × Int) (w : World) (e : Ending) (w' : World) : Prop :=
  ∃ (A : Option Addr) (m c : Nat), e = .returned (.tuple #[.slice A m c, .int .i64 R.2]) ∧ OwnSt w.heap.size w'.heap.size w' (.slice A m c) m R.1 ∧ Below w.heap.size w w'
theorem ownSt_nil (lo hi : Nat) (w : World) : OwnSt lo hi w (.slice none 0 0) 0 [] := ⟨World.ownsRow_nil _ _ _ _, fun k e => by cases e⟩
theorem own_ne {w : World} {B b n size : Nat} {e T : TypeId} {v : Value} {xs : List Value} {cs : Array Value} {fr : Nat × Nat} (hown : w.ownsRow B e size v n xs) (hb : w.heap[b]? = some (.cells cs T fr)) (hT : T ≠ e) : v.ownBlock ≠ some b := by
  intro h
  rcases hown.2 with ⟨rfl, _⟩ | ⟨g, cap, cur, rfl, _, hg, _⟩
  · cases h
  · simp only [Value.ownBlock, Option.some.injEq] at h
    subst h
    rw [hg] at hb
    simp only [Option.some.injEq, Obj.cells.injEq] at hb
    exact hT hb.2.1.symm
theorem linesA_len (t : List UInt8) : ∀ cur l, l ∈ linesA cur t → l.length ≤ cur.length + t.length := by
  induction t with
  | nil => intro cur l h; simp [linesA] at h; subst h; simp
  | cons c r ih =>
    intro cur l h
    unfold linesA at h
    split at h
    · rcases List.mem_cons.1 h with rfl | h
      · simp
      · have := ih [] l h
        simp at this ⊢; omega
    · have := ih _ l h
      simp at this ⊢; omega
theorem linesA_count (t : List UInt8) : ∀ cur, (linesA cur t).length ≤ t.length + 1 := by
  induction t with
  | nil => intro cur; simp [linesA]
  | cons c r ih =>
    intro cur
    unfold linesA
    split
    · have := ih []
      simp; omega
    · have := ih (cur ++ [c])
      simp; omega
theorem ownP_one {base n : Nat} {w : World} {v : Value} {ss : List St} {op d a b c m : Int} (h : w.ownsRow base 34 6 v (n + 1) (intVals (flat ss) ++ (#[Value.int .i64 op, .int .i64 d, .int .i64 a, .int .i64 b, .int .i64 c, .int .i64 m] : Array Value).toList)) : OwnS base w v (n + 1) (ss ++ [⟨op, d, a, b, c, m⟩]) := by
  unfold OwnS
  rw [flat_append]
  simpa [intVals, flat] using h
theorem goP_at {L : List (List UInt8)} {k : Nat} {acc : List St} (h : k < L.length) :
    goP (L.drop k) k acc = if L.getD k [] = [] then goP (L.drop (k + 1)) (k + 1) acc else match parseL (L.getD k []) with
      | none => ([], (k : Int) + 1)
      | some s => goP (L.drop (k + 1)) (k + 1) (acc ++ [s]) := by
  rw [List.drop_eq_getElem_cons h, goP, List.getD_eq_getElem?_getD, List.getElem?_eq_getElem h]
  rfl
theorem ba_nil {t : ByteArray} (h : t.data.toList = []) : t = ⟨#[]⟩ := by apply WideShapes.bytes_inj; simpa using h
set_option maxRecDepth 100000 in
set_option maxHeartbeats 1000000 in
theorem impl_ParseProgram_long (s : ByteArray) (w : World) (hm : s.size ≤ 1048576) (h : 20000 < s.size) :
    Calls Tryz.prog 9 #[.string s] w (PpPost ([], -1) w) := by
  have hd : decide ((20000 : Int) < (s.size : Int)) = true := by simp; omega
  go_enter Tryz.func9, Tryz.ntmps9
  go_wp2_with fail
  go_ret2
  exact ⟨_, _, _, rfl, ownSt_nil _ _ _, Below.refl _ _⟩
set_option maxRecDepth 100000 in
set_option maxHeartbeats 2000000 in
theorem impl_ParseProgram_go (s : ByteArray) (w : World) (hm : s.size ≤ 20000) (ht : TabOk w) (he : ErrOk w) (hz : 8 ≤ w.heap.size) (R : List St × Int) (hR : goP (linesL s.data.toList) 0 [] = R) :
    Calls Tryz.prog 9 #[.string s] w (PpPost R w) := by
  have hd : decide ((20000 : Int) < (s.size : Int)) = false := by simp; omega
  have hsl : s.data.toList.length = s.size := by simp
  have hLc := linesA_count s.data.toList []
  have hLl := linesA_len s.data.toList []
  have csp := fun w => split_nl s w (by omega)
  have e0 : linesA [] s.data.toList = linesL s.data.toList := rfl
  rw [e0] at hLc hLl
  unfold nl at csp
  generalize linesL s.data.toList = L at *
  have hln : L.length ≤ 20001 := by omega
  have hll : ∀ j, (L.getD j []).length ≤ 20000 := fun j => getD_mem L 20000 j fun f hf => by have := hLl f hf; simp at this; omega
  have Hll := Lib.hid hll
  have HR := Lib.hid hR
  clear hR hll hLl hLc hsl e0
  go_enter Tryz.func9, Tryz.ntmps9
  go_wp2_with fail
  refine (sourceForms_any _).mono ?_
  rintro e w1 ⟨rfl, hf, hb1⟩
  generalize hB : w.heap.size = B at hf
  have hown0 : (w1.alloc (.cells #[] 34)).ownsRow w1.heap.size 34 6 (.slice (some ⟨w1.heap.size, 0, none⟩) 0 0) 0 (intVals (flat [])) := World.ownsRow_lit w1 #[] 0 (Nat.le_refl _) (by unfold maxLen; omega) rfl
  have hs1 := hb1.size
  have hf2 := hf.below (below_alloc w1 (.cells #[] 34))
  have hb2 := low_alloc hb1 (.cells #[] 34)
  have hsz2 := World.size_alloc w1 (.cells #[] 34)
  go_wp2_with fail
  refine (csp _).mono ?_
  rintro e w3 ⟨rfl, hlb, hb3⟩
  have hown3 := own_below hown0 hb3
  have hf3 := hf2.below hb3
  have hb4 := hb2.trans (hb3.mono hb2.size)
  have hs3 := hb3.size
  have hbG : Below w1.heap.size w1 w3 := (below_alloc w1 (.cells #[] 34)).trans (hb3.mono (by rw [hsz2]; omega))
  have HF := Lib.hid (fun wr (h : Below w1.heap.size w1 wr) => hf.below h)
  have Hb1 := Lib.hid hb1
  generalize hG : w1.heap.size = G at *
  rw [hsz2] at hlb hs3
  rw [hsz2]
  clear hown0 hf hf2 hb1 hb2 hb3 csp hsz2
  go_wp2_with fail
  have HL0 : L.drop 0 = L := List.drop_zero
  clear hf3 hb4
  go_loopw [18, 5] (fun i v wr => ∃ (k : Nat) (A : Option Addr) (m c : Nat) (acc : List St), i = .int .i64 k ∧ v = .slice A m c ∧ k ≤ L.length ∧ m ≤ k ∧ OwnS G wr (.slice A m c) m acc ∧ Hid (goP (L.drop k) k acc = R) ∧ Below G w1 wr ∧ wr.heap[G + 1]? = some (.cells (L.map fun l => Value.string ⟨l.toArray⟩).toArray 9 (0, 0))) (fun i _ _ => L.length - (intOf i).toNat)
  case atStart => exact ⟨0, some ⟨G, 0, none⟩, 0, 0, [], rfl, rfl, Nat.zero_le _, Nat.le_refl _, hown3, (show goP (L.drop 0) 0 [] = R from by rw [HL0]; exact HR.out), hbG, hlb⟩
  case round =>
    obtain ⟨k, A, m, c, acc, rfl, rfl, hk, hmk, hown, hgo, hb, hl⟩ := hrel
    have hsz0 := hb.size
    have hsz : G ≤ wr.heap.size := by omega
    have hbw := Hb1.out.trans (hb.mono hs1)
    clear hown3 hbG hlb
    by_cases hlt : k < L.length
    · have hfw := HF.out wr hb
      obtain ⟨ln, hlnq⟩ : ∃ t : ByteArray, t = ⟨(L.getD k []).toArray⟩ := ⟨_, rfl⟩
      have c0 := (blk (i := k) (u := .string ln) hl (by rw [hlnq]; simp [List.getElem?_map, List.getD_eq_getElem?_getD, List.getElem?_eq_getElem hlt])).1
      have hld : ln.data.toList = L.getD k [] := by rw [hlnq]
      have hls : ln.size ≤ 20000 := by
        have := Hll.out k
        rw [hlnq]; show (L.getD k []).toArray.size ≤ 20000; rw [List.size_toArray]; exact this
      have hstep := goP_at (acc := acc) hlt
      rw [hgo.out, ← hld] at hstep
      have k0 : (0 : Int) ≤ k := by omega
      have k1 : (k : Int) < (L.length : Int) := by omega
      have k2 : (k : Int) ≤ 20001 := by omega
      have hgl := heap_lt hl
      have Hl := Lib.hid hl
      by_cases hemp : ln.data.toList = []
      · rw [if_pos hemp] at hstep
        have Hs := Lib.hid hstep
        have hle : ln = ⟨#[]⟩ := ba_nil hemp
        clear hstep hlnq hld hemp
        subst hle
        go_wp2_with fail
        go_roundw
        case rel => exact ⟨k + 1, A, m, c, acc, by go_num, rfl, by omega, by omega, hown, Hs.out.symm, hb, Hl.out⟩
        case measure => simp [intOf]; omega
      · rw [if_neg hemp] at hstep
        obtain ⟨q1, q2⟩ := str_some (a := ln) hemp
        have cp := impl_parseWith B ln (by omega) wr hfw (tab_at ht hbw hz) (he.below hbw hz) (top_at hz hbw)
        cases hp : parseL ln.data.toList with
        | none =>
          rw [hp] at cp hstep
          rw [optV_none] at cp
          have hRn : R = ([], (k : Int) + 1) := hstep
          have HRn := Lib.hid hRn
          clear hstep hp hRn hlnq hld hemp
          go_wp2_with fail
          refine cp.mono ?_
          rintro e w5 ⟨rfl, hb5⟩
          have hb6 := low_alloc (hbw.trans (hb5.mono hbw.size)) (.cells #[.int .i64 0, .int .i64 0, .int .i64 0, .int .i64 0, .int .i64 0, .int .i64 0] 34)
          clear cp hb5
          go_wp2_with fail
          go_ret2
          rw [HRn.out]
          exact ⟨_, _, _, rfl, ownSt_nil _ _ _, hb6⟩
        | some st =>
          obtain ⟨so, sd, sa, sb, sc, sn⟩ := st
          rw [hp] at cp hstep
          have hRs : R = goP (L.drop (k + 1)) (k + 1) (acc ++ [⟨so, sd, sa, sb, sc, sn⟩]) := hstep
          have HRs := Lib.hid hRs
          have cp2 : Calls Tryz.prog 26 #[.map (some (B + 1)), .string ln] wr fun e w' => e = .returned (.tuple #[.agg #[.int .i64 so, .int .i64 sd, .int .i64 sa, .int .i64 sb, .int .i64 sc, .int .i64 sn], .bool true]) ∧ Below wr.heap.size wr w' := cp
          clear hstep hp hRs hlnq hld hemp cp
          go_wp2_with fail
          refine cp2.mono ?_
          rintro e w5 ⟨rfl, hb5⟩
          have hown5 := own_below hown hb5
          have hl5 := heap_below Hl.out hb5
          have hb6 := hb.trans (hb5.mono hsz)
          have hs5 := hb5.size
          have hown6 := own_below hown5 (below_alloc w5 (.cells #[.int .i64 so, .int .i64 sd, .int .i64 sa, .int .i64 sb, .int .i64 sc, .int .i64 sn] 34))
          have hl6 := heap_alloc hl5 (.cells #[.int .i64 so, .int .i64 sd, .int .i64 sa, .int .i64 sb, .int .i64 sc, .int .i64 sn] 34)
          have hb7 := hb6.alloc (by omega) (.cells #[.int .i64 so, .int .i64 sd, .int .i64 sa, .int .i64 sb, .int .i64 sc, .int .i64 sn] 34)
          have hx7 := heap_alloc_new w5 (.cells #[.int .i64 so, .int .i64 sd, .int .i64 sa, .int .i64 sb, .int .i64 sc, .int .i64 sn] 34)
          have hs7 : G ≤ (w5.alloc (.cells #[.int .i64 so, .int .i64 sd, .int .i64 sa, .int .i64 sb, .int .i64 sc, .int .i64 sn] 34)).heap.size := by rw [World.size_alloc]; omega
          clear cp2 hb5 hown hown5 hl hl5 hb6 hb c0 hbw hfw
          go_upto_region 10 with (fail)
          generalize hw6 : w5.alloc (.cells #[.int .i64 so, .int .i64 sd, .int .i64 sa, .int .i64 sb, .int .i64 sc, .int .i64 sn] 34) = w6 at *
          generalize hg6 : w5.heap.size = g6 at *
          clear hw6
          have x0 := (blk (i := 0) hx7 rfl).1
          have x1 := (blk (i := 1) hx7 rfl).1
          have x2 := (blk (i := 2) hx7 rfl).1
          have x3 := (blk (i := 3) hx7 rfl).1
          have x4 := (blk (i := 4) hx7 rfl).1
          have x5 := (blk (i := 5) hx7 rfl).1
          have hmm : m ≤ 20001 := by omega
          go_wp2_with (first | (at_builtin; refine app_list (e' := 34) elemStmt rfl _ _ rfl G _ m (intVals (flat acc)) rfl (own_below hown6 (below_alloc _ _)) w6.heap.size 1 1 _ (0, 0) rfl (heap_alloc_new w6 _) rfl (oneCell_i64 [_, _, _, _, _, _]) (by omega) (by unfold maxLen; omega) (by omega) (by simp; omega) (w6.heap.size + 1) (by simp) ?_))
          intro g7 cap w7 hown7 hgrow hat hgl7
          have hb8 : Below G w1 w7 := below_own (hb7.alloc hs7 _) (own_below hown6 (below_alloc _ _)) hgrow (Nat.le_refl _) (by simp; omega)
          have hl8 := (hgrow.block (G + 1) (by rw [World.size_alloc]; exact Nat.lt_succ_of_lt (heap_lt hl6)) (fun e => own_ne hown6 hl6 (by decide) e.symm)).trans (heap_alloc hl6 _)
          have hown8 := ownP_one hown7
          have Hown8 := Lib.hid hown8
          have Hl8 := Lib.hid hl8
          clear hown7 hown8 hgrow hown6 hl6 hl8 hb7 x0 x1 x2 x3 x4 x5
          go_wp2_with fail
          go_roundw
          case rel => exact ⟨k + 1, _, m + 1, cap, _, by go_num, rfl, by omega, by omega, Hown8.out, HRs.out.symm, hb8, Hl8.out⟩
          case measure => simp [intOf]; omega
    · obtain rfl : k = L.length := by omega
      have hfin := hgo.out
      rw [List.drop_length, goP] at hfin
      obtain ⟨hi, hal⟩ := OwnS.ints hown
      have cpo := impl_ProgramOk A m c acc wr hi hal (by omega)
      by_cases hpo : progI acc
      · rw [decide_eq_true hpo] at cpo
        rw [if_pos hpo] at hfin
        clear hpo hgo hi
        go_wp2_with fail
        refine cpo.mono ?_
        rintro e w5 ⟨rfl, hb5⟩
        have hown5 := own_below hown hb5
        have hb6 := hbw.trans (hb5.mono hbw.size)
        clear cpo hb5
        go_wp2_with fail
        go_ret2
        rw [← hfin]
        exact ⟨_, _, _, rfl, OwnSt.of_own (own_mono hown5 hs1), hb6⟩
      · rw [decide_eq_false hpo] at cpo
        rw [if_neg hpo] at hfin
        clear hpo hgo hi
        go_wp2_with fail
        refine cpo.mono ?_
        rintro e w5 ⟨rfl, hb5⟩
        have hb6 := hbw.trans (hb5.mono hbw.size)
        clear cpo hb5
        go_wp2_with fail
        go_ret2
        rw [← hfin]
        exact ⟨_, _, _, rfl, ownSt_nil _ _ _, hb6⟩
theorem impl_ParseProgram (s : ByteArray) (w : World) (hm : s.size ≤ 1048576) (ht : TabOk w) (he : ErrOk w) (hz : 8 ≤ w.heap.size) :
    Calls Tryz.prog 9 #[.string s] w (PpPost (parseP s.data.toList) w) := by
  have hsl : s.data.toList.length = s.size := by simp
  unfold parseP
  by_cases h : 20000 < s.size
  · rw [if_pos (by omega)]; exact impl_ParseProgram_long s w hm h
  · rw [if_neg (by omega)]; exact impl_ParseProgram_go s w (by omega) ht he hz _ rfl
end Go.Proofs.YtjclhlicginekaaGreatDoor
