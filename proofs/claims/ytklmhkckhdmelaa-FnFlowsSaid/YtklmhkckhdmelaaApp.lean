/- append of a drawn byte slice behind bytes of the call's own: 'append([]byte{3}, code...)'. -/
import Derived.Test.YtklmhkckhdmelaaProg
import Derived.Test.YtklmhkckhdmelaaDraw
import Derived.Deep.AppendSrc
namespace Go.Proofs.Ytklmhkckhdmelaa
open Go Go.RowKit
theorem elemU8a : Elem Try.prog 22 5 1 1 := ⟨Try.underlying22, by
  obtain ⟨i, hi, hz, h1, h2⟩ := info_parts (show (Try.prog.info? 5).map (fun i => (i.zero, i.size, i.bytes)) = some (some (.int .u8 0), 1, 1) by kernel_rfl)
  exact ⟨i, _, hi, hz, h1, h2, rfl⟩, by omega⟩
def isByteV (u : Value) : Prop := ∃ z : Int, 0 ≤ z ∧ z ≤ 255 ∧ u = .int .u8 z
theorem Bytes.list {B n : Nat} {w : World} {A : Option Addr} (h : Bytes B w A n) :
    ∃ news : List Value, news.length = n ∧ (∀ u ∈ news, isByteV u) ∧ (n = 0 ∨ ∃ a : Addr, A = some a ∧ ∀ j u, news[j]? = some u → w.cell? (a.add j) = some u) := by
  rcases Nat.eq_zero_or_pos n with h0 | hp
  · exact ⟨[], by simp [h0], by simp, .inl h0⟩
  · obtain ⟨b, o, hA, hb, hc⟩ := h hp
    have key : ∀ m, m ≤ n → ∃ l : List Value, l.length = m ∧ (∀ u ∈ l, isByteV u) ∧ ∀ j u, l[j]? = some u → w.cell? ⟨b, o + j, none⟩ = some u := by
      intro m
      induction m with
      | zero => intro _; exact ⟨[], rfl, by simp, by simp⟩
      | succ m ih =>
        intro hm
        obtain ⟨l, hl, hu, hj⟩ := ih (by omega)
        obtain ⟨z, z0, z1, hz⟩ := hc m (by omega)
        refine ⟨l ++ [.int .u8 z], by simp [hl], ?_, ?_⟩
        · intro u hu'
          rcases List.mem_append.1 hu' with h | h
          · exact hu u h
          · simp at h; exact ⟨z, z0, z1, h⟩
        · intro j u hj'
          rcases Nat.lt_trichotomy j m with h | h | h
          · rw [List.getElem?_append_left (by omega)] at hj'
            exact hj j u hj'
          · subst h
            rw [List.getElem?_append_right (by omega)] at hj'
            simp [hl] at hj'
            rw [hz, hj']
          · rw [List.getElem?_eq_none (by simp; omega)] at hj'
            cases hj'
    obtain ⟨l, hl, hu, hj⟩ := key n (Nat.le_refl n)
    refine ⟨l, hl, hu, .inr ⟨⟨b, o, none⟩, hA, fun j u hju => ?_⟩⟩
    rw [← hj j u hju]
    rcases Nat.eq_zero_or_pos j with h | h
    · subst h; simp [Addr.add]
    · simp [Addr.add, Nat.ne_of_gt h]
theorem isByteV.one {l : List Value} (h : ∀ u ∈ l, isByteV u) : ∀ u ∈ l, u.oneCell' = true := by
  intro u hu
  obtain ⟨z, _, _, rfl⟩ := h u hu
  rfl
/-- What an owned row of bytes is to a draw. -/
theorem Bytes.of_own {w : World} {base n cap g : Nat} {e : TypeId} {xs : List Value} (hown : w.ownsRow base e 1 (.slice (some ⟨g, 0, none⟩) n cap) n xs) (hx : ∀ u ∈ xs, isByteV u) (hg : g < w.heap.size) :
    Bytes w.heap.size w (some ⟨g, 0, none⟩) n := by
  intro _
  refine ⟨g, 0, rfl, hg, fun k hk => ?_⟩
  have hl : xs.length = n := by have := hown.1; omega
  have hc := hown.cellAt k (by omega)
  rw [List.getElem?_eq_getElem (by omega)] at hc
  obtain ⟨z, z0, z1, hz⟩ := hx _ (List.getElem_mem (by omega : k < xs.length))
  refine ⟨z, z0, z1, ?_⟩
  rw [Nat.zero_add, hc, hz]
/-- A row that is laid whole. -/
theorem own_whole (w : World) (cur : Array Value) (e : TypeId) (base cap : Nat) (hb : base ≤ w.heap.size) (hm : cap ≤ maxLen) (hs : cur.size = cap) :
    (w.alloc (.cells cur e)).ownsRow base e 1 (.slice (some ⟨w.heap.size, 0, none⟩) cap cap) cap cur.toList :=
  ⟨by simp [hs], .inr ⟨w.heap.size, cap, cur, rfl, hb, heap_alloc_new w _, Nat.le_refl _, hm, by omega, by rw [Nat.mul_one]; exact List.take_of_length_le (by simp [hs])⟩⟩
theorem below_app {B : Nat} {w w1 w2 : World} {o : Obj} {n c : Nat} (h : Below B w w1) (hB : B ≤ w1.heap.size) (hg : (w1.alloc o).grownBy w2 (Value.slice (some ⟨w1.heap.size, 0, none⟩) n c).ownBlock) : Below B w w2 :=
  (h.alloc hB o).grown hg (by simp; omega) (fun k e => by simp [Value.ownBlock] at e; omega)
theorem own_one (w : World) (x : Int) (e : TypeId) : (w.alloc (.cells #[.int .u8 x] e)).ownsRow w.heap.size e 1 (.slice (some ⟨w.heap.size, 0, none⟩) 1 1) 1 [.int .u8 x] :=
  own_whole w #[.int .u8 x] e _ 1 (Nat.le_refl _) (by unfold maxLen; omega) rfl
theorem byte_one {x : Int} (h0 : 0 ≤ x) (h1 : x ≤ 255) : ∀ u ∈ [Value.int .u8 x], isByteV u := by
  intro u hu
  simp at hu
  exact ⟨x, h0, h1, hu⟩
section
variable {P : Program} {t e : TypeId} {w : World}
theorem run_app_bytes (L : Elem P t e 1 1) (ty : TypeId) (base : Nat) (v : Value) (n : Nat) (xs : List Value) (hown : w.ownsRow base e 1 v n xs) (hn : 0 < n) (hx : ∀ u ∈ xs, isByteV u)
    (B : Nat) (A : Option Addr) (m c : Nat) (hb : Bytes B w A m) (h63 : n + m ≤ maxLen) (hbytes : n + m ≤ 140737488355328) (hbase : base ≤ w.heap.size) :
    ∃ g cap w', (Builtin.append_ #[t, t] ty #[v, .slice A m c]).run P w = .ok (.slice (some ⟨g, 0, none⟩) (n + m) cap) w' ∧ Bytes w'.heap.size w' (some ⟨g, 0, none⟩) (n + m) ∧ w.grownBy w' v.ownBlock := by
  obtain ⟨i, z, hi, hz, hz1, hz2, hz3⟩ := L.info
  obtain ⟨news, hl, hbyte, hsrc⟩ := hb.list
  have hall : ∀ u ∈ xs ++ news, isByteV u := fun u hu => (List.mem_append.1 hu).elim (hx u) (hbyte u)
  have main : ∀ a : Addr, A = some a → (∀ j u, news[j]? = some u → w.cell? (a.add j) = some u) →
      ∃ g cap w', (Builtin.append_ #[t, t] ty #[v, .slice A m c]).run P w = .ok (.slice (some ⟨g, 0, none⟩) (n + m) cap) w' ∧ Bytes w'.heap.size w' (some ⟨g, 0, none⟩) (n + m) ∧ w.grownBy w' v.ownBlock := by
    rintro a rfl hnews
    obtain ⟨v', w', hr, h2, h3, _, _⟩ := run_append_own_at (P := P) w base t ty e i z 1 1 L.ht hi hz hz1 hz2 hz3 (by omega) v n xs hown a m c news (by omega) hnews (isByteV.one hbyte) h63 (by omega) hbase
    obtain ⟨g, cap, rfl, _, hlt⟩ := h2.form (by omega)
    exact ⟨g, cap, w', hr, Bytes.of_own h2 hall hlt, h3⟩
  rcases hsrc with h0 | ⟨a, hA, hnews⟩
  · subst h0
    have hnil : news = [] := List.eq_nil_of_length_eq_zero hl
    cases A with
    | some a => exact main a rfl (by simp [hnil])
    | none =>
      obtain ⟨g, cap, rfl, hbg, hlt⟩ := hown.form hn
      have hcap : n ≤ cap := by
        rcases hown.2 with ⟨he, _⟩ | ⟨g', cap', cur, he, _, _, h, _⟩
        · cases he
        · injection he with _ _ he; omega
      refine ⟨g, cap, w, ?_, ?_, World.grownBy.refl w _⟩
      · have h := run_append_room_src (P := P) w t t ty e i L.ht hi g 0 n cap (.slice none 0 c) 0 [] (Src.ofNil w L.ht c) (by omega) (by simp) (by simp)
        exact h
      · exact Bytes.of_own hown hx hlt
  · exact main a hA hnews
/-- In a plain region. -/
theorem app_bytes (L : Elem P t e 1 1) {ops : Array Oper} {rest : List Oper} {o : Oper} {a : Act} {Q : Exit → Act → World → Prop} (hgd : o.guard = none) (s x : Operand)
    (ho : o.op = .call { callee := .builtin .append, args := #[s, x], argTypes := #[t, t] }) (base : Nat) (v : Value) (n : Nat) (xs : List Value) (hs : a.eval s = v) (hown : w.ownsRow base e 1 v n xs) (hn : 0 < n) (hx : ∀ u ∈ xs, isByteV u)
    (B : Nat) (A : Option Addr) (m c : Nat) (hxx : a.eval x = .slice A m c) (hb : Bytes B w A m) (h63 : n + m ≤ maxLen) (hbytes : n + m ≤ 140737488355328) (hbase : base ≤ w.heap.size)
    (h : ∀ g cap w', Bytes w'.heap.size w' (some ⟨g, 0, none⟩) (n + m) → w.grownBy w' v.ownBlock → wpList P ops Q rest (a.put o.dst (.slice (some ⟨g, 0, none⟩) (n + m) cap)) w') : wpList P ops Q (o :: rest) a w := by
  obtain ⟨g, cap, w', hr, h2, h3⟩ := run_app_bytes (P := P) L o.type base v n xs hown hn hx B A m c hb h63 hbytes hbase
  refine wpList_plain hgd fun _ hK => ?_
  unfold Oper.wp execOp
  simp only [ho, resolve, invoke, builtin, Sem.run_bind, Sem.run_pure, Result.andThen_ok, List.map_toArray, List.map_cons, List.map_nil, hs, hxx, hr]
  exact hK _ _ (h g cap w' h2 h3)
end
theorem Bytes.more {B B' n : Nat} {w w' : World} {A : Option Addr} (h : Bytes B w A n) (hb : Below B w w') (hB : B ≤ B') : Bytes B' w' A n := fun hn => by
  obtain ⟨b, o, e, hl, hc⟩ := h.keep (fun k hk => hb.block k hk) hn
  exact ⟨b, o, e, by omega, hc⟩
end Go.Proofs.Ytklmhkckhdmelaa
