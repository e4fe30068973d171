/- Compilation: the word of any plain statement, and the table of registers as it is made: the model's. No condition. -/
import Derived.Test.YtklekabjhehopaaProg
import Derived.Test.YtklekabjhehopaaCI
import Derived.Test.YtklekabjhehopaaM1
namespace Go.Proofs.Ytklekabjhehopaa
open Go Go.RowKit
set_option maxHeartbeats 1000000 in
theorem spec_l15Word (B g b c : Nat) (v u : Value) (vs : List Value) (n m : Nat) (z os : List Int) (rg : List (List Int)) (op d a e f k : Int) (hok : okI op d a e f k) (h10 : op ≤ 10) (w : World) (h : Cs B g b c w v u vs n m z os rg) (hB : B ≤ w.heap.size) (hn : n ≤ 900000) :
    Calls Try.prog 64 #[.pointer (some ⟨g, 0, none⟩), .slice (some ⟨b, 0, none⟩) 8 c, .agg #[.int .i64 op, .int .i64 d, .int .i64 a, .int .i64 e, .int .i64 f, .int .i64 k], .int .i64 0] w (PutR B g ⟨[u], 31⟩ n (wordG z rg 0 op a e f k).1 (wordG z rg 0 op a e f k).2 v w) := by
  unfold okI isReg at hok
  rcases hok with ⟨rfl, hd, rfl, rfl, rfl, hk⟩ | ⟨rfl, hd, ha0, ha4, rfl, rfl, hk0, hk3⟩ | ⟨h3, h9, hd, ha, hb, rfl, rfl⟩ | ⟨rfl, hd, ha, hb, hc, rfl⟩ | ⟨rfl, _⟩ | ⟨rfl, _⟩ | ⟨rfl, _⟩
  · exact spec_word_1 B g b c v u vs n m z os rg d 0 0 0 k (by omega) (by omega) hk w h hB hn
  · obtain ⟨a, rfl⟩ := Int.eq_ofNat_of_zero_le ha0
    obtain ⟨k, rfl⟩ := Int.eq_ofNat_of_zero_le hk0
    exact spec_word_2 B g b c v u vs n m z os rg d a 0 0 k (by omega) (by omega) (by omega) (by omega) w h hB hn
  · obtain ⟨a, rfl⟩ := Int.eq_ofNat_of_zero_le ha.1
    obtain ⟨e, rfl⟩ := Int.eq_ofNat_of_zero_le hb.1
    rcases (show op = 3 ∨ op = 4 ∨ op = 5 ∨ op = 6 ∨ op = 7 ∨ op = 8 ∨ op = 9 by omega) with rfl | rfl | rfl | rfl | rfl | rfl | rfl
    · exact spec_word_3 B g b c v u vs n m z os rg d a e 0 0 (by omega) (by omega) w h hB hn
    · exact spec_word_4 B g b c v u vs n m z os rg d a e 0 0 (by omega) (by omega) w h hB hn
    · exact spec_word_5 B g b c v u vs n m z os rg d a e 0 0 (by omega) (by omega) w h hB hn
    · exact spec_word_6 B g b c v u vs n m z os rg d a e 0 0 (by omega) (by omega) w h hB hn
    · exact spec_word_7 B g b c v u vs n m z os rg d a e 0 0 (by omega) (by omega) w h hB hn
    · exact spec_word_8 B g b c v u vs n m z os rg d a e 0 0 (by omega) (by omega) w h hB hn
    · exact spec_word_9 B g b c v u vs n m z os rg d a e 0 0 (by omega) (by omega) w h hB hn
  · obtain ⟨a, rfl⟩ := Int.eq_ofNat_of_zero_le ha.1
    obtain ⟨e, rfl⟩ := Int.eq_ofNat_of_zero_le hb.1
    obtain ⟨f, rfl⟩ := Int.eq_ofNat_of_zero_le hc.1
    exact spec_word_10 B g b c v u vs n m z os rg d a e f 0 (by omega) (by omega) (by omega) w h hB hn
  · omega
  · omega
  · omega
theorem elemTab : Elem Try.prog 25 29 1 24 := ⟨Try.underlying25, by
  obtain ⟨i, hi, hz, h1, h2⟩ := info_parts (show (Try.prog.info? 29).map (fun i => (i.zero, i.size, i.bytes)) = some (some (.slice none 0 0), 1, 24) by kernel_rfl)
  exact ⟨i, _, hi, hz, h1, h2, rfl⟩, by omega⟩
theorem oneCell_row (u : Value) (h : u.oneCell' = true) : ∀ x ∈ (#[u] : Array Value).toList, x.oneCell' = true := fun x hx => by simp at hx; subst hx; exact h
/-- The table as it is made: one word, k times. -/
structure Gr (B g : Nat) (w1 wr : World) (v : Value) (n : Nat) (z : List Int) (W : Value) (us : List Int) (u : Value) (k : Nat) : Prop where
  cir : Cir B g wr v ⟨[.slice none 0 0], 31⟩ n z
  wl : Wl g v B wr W 4 us
  own : wr.ownsRow B 29 1 u k (List.replicate k W)
  ne : u.ownBlock ≠ some g
  ap : apart u v
  aw : apart u W
  low : Below B w1 wr
  size : B ≤ wr.heap.size
section
variable {B g n k b c : Nat} {w1 wr w2 : World} {v W u : Value} {z us : List Int}
theorem Gr.alloc (h : Gr B g w1 wr v n z W us u k) (o : Obj) : Gr B g w1 (wr.alloc o) v n z W us u k :=
  ⟨h.cir.alloc o, h.wl.alloc o, own_below h.own (below_alloc wr o), h.ne, h.ap, h.aw, h.low.alloc h.size o, by have := h.size; simp; omega⟩
theorem Gr.app {o : Obj} (h : Gr B g w1 wr v n z W us u k) (ho : w2.ownsRow B 29 1 (.slice (some ⟨b, 0, none⟩) (k + 1) c) (k + 1) (List.replicate k W ++ (#[W] : Array Value).toList)) (hg : (wr.alloc o).grownBy w2 u.ownBlock) (hat : u.ownBlock = some b ∨ b = wr.heap.size + 1) :
    Gr B g w1 w2 v n z W us (.slice (some ⟨b, 0, none⟩) (k + 1) c) (k + 1) := by
  have h1 := h.alloc o
  have e0 : (Value.slice (some ⟨b, 0, none⟩) (k + 1) c).ownBlock = some b := rfl
  have far : ∀ q, (∀ p, u.ownBlock = some p → p ≠ q) → q < wr.heap.size + 1 → b ≠ q := fun q h2 h3 e => by
    rcases hat with e1 | e1
    · exact h2 b e1 e
    · omega
  have sz : (wr.alloc o).heap.size = wr.heap.size + 1 := by simp
  refine ⟨h1.cir.grown hg h1.ne h1.ap, ⟨h1.wl.own.kept hg ?_, h1.wl.ne, h1.wl.ap⟩, ?_, fun e => ?_, fun q e e' => ?_, fun q e e' => ?_, h1.low.grown hg h1.size (fun q e => (h1.own.lt q e).1), Nat.le_trans h1.size hg.size⟩
  · rcases hW : W.ownBlock with _ | q
    · exact .inl rfl
    · exact .inr (fun e => h1.aw q e.symm hW)
  · rw [List.replicate_succ']
    exact ho
  · rw [e0] at e
    injection e with e
    exact far g (fun p e1 e2 => h.ne (by rw [e1, e2])) (by have := h.cir.lt; omega) e
  · rw [e0] at e
    injection e with e
    exact far q (fun p e1 e2 => h.ap p e1 (by rw [e2]; exact e')) (by have := (h.cir.own.lt q e').2; omega) e
  · rw [e0] at e
    injection e with e
    exact far q (fun p e1 e2 => h.aw p e1 (by rw [e2]; exact e')) (by have := (h.wl.own.lt q e').2; omega) e
/-- The table is made. -/
theorem Gr.done {A : Option Addr} {d : Nat} (h : Gr B g w1 wr v n z (.slice A 4 d) us (.slice (some ⟨b, 0, none⟩) 8 c) 8) (hl : us.length = 4) (hg : B ≤ g) :
    Cs B g b c wr v (.slice none 0 0) (List.replicate 8 (.slice A 4 d)) n 0 z [] (List.replicate 8 us) ∧ Rw g b v (.slice none 0 0) wr A us := by
  obtain ⟨q, rfl, _⟩ := own_addr h.wl.own (by omega)
  have hr : Rw g b v (.slice none 0 0) wr (some ⟨q, 0, none⟩) us := by
    obtain ⟨q2, o2, e, hl2, hc⟩ := Ints.of_own h.wl.own (by omega)
    injection e with e; injection e with e1 e2; subst e1 e2
    exact ⟨q, 0, rfl, hl2, ⟨fun e => h.wl.ne (by rw [← e]; rfl), fun e => h.aw b rfl (by rw [← e]; rfl), fun e => h.wl.ap q rfl e, by simp [Value.ownBlock]⟩, hc⟩
  exact ⟨⟨h.cir, ⟨World.ownsRow_nil _ _ _ _, by simp [Value.ownBlock], apart.nil _ _ _⟩, by simp [Value.ownBlock], h.own, fun e => h.ne (by rw [← e]; rfl), fun e => h.ap b rfl e, hg, Tb.same h.wl.cap hl hr⟩, hr⟩
end
end Go.Proofs.Ytklekabjhehopaa
