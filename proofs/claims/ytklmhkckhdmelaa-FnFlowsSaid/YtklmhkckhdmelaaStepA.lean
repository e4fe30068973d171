/- append of a slice of ints as a step of a drawn region. No condition. -/
import Derived.Test.YtklmhkckhdmelaaProg
import Derived.Test.YtklmhkckhdmelaaSeg
import Derived.Test.YtklmhkckhdmelaaBlk
import Derived.Deep.RegionLaw
namespace Go.Proofs.Ytklmhkckhdmelaa
open Go Go.RowKit
theorem step_app_ints {P : Program} {t e : TypeId} {w : World} (L : Elem P t e 1 8) {ops : Array Oper} {o : Oper} {a : Act} {K : Act → World → Prop} {Q : Exit → Act → World → Prop} {E : Prop} (hgd : o.guard = none) (s x : Operand)
    (ho : o.op = .call { callee := .builtin .append, args := #[s, x], argTypes := #[t, t] }) (base : Nat) (v : Value) (n : Nat) (xs : List Value) (hs : a.eval s = v) (hown : w.ownsRow base e 1 v n xs)
    (A : Option Addr) (m c : Nat) (zs : List Int) (hxx : a.eval x = .slice A m c) (hz : Ints w A zs) (hl : zs.length = m) (h63 : n + m ≤ maxLen) (hbytes : (n + m) * 8 ≤ 140737488355328) (hbase : base ≤ w.heap.size)
    (h : ∀ v' w', w'.ownsRow base e 1 v' (n + m) (xs ++ intVals zs) → w.grownBy w' v.ownBlock → (v'.ownBlock = v.ownBlock ∨ v'.ownBlock = some w.heap.size) → K (a.put o.dst v') w') :
    if Region.wanted o (yielded ops a.tmps) = true then Oper.wp P o a w K Q else E := by
  have hw : Region.wanted o (yielded ops a.tmps) = true := by simp [Region.wanted, hgd]
  rw [if_pos hw]
  obtain ⟨v', w', hr, h2, h3, h4⟩ := run_app_ints (P := P) L o.type base v n xs hown A m c zs hz hl h63 hbytes hbase
  unfold Oper.wp execOp
  simp only [ho, resolve, invoke, builtin, Sem.run_bind, Sem.run_pure, Result.andThen_ok, List.map_toArray, List.map_cons, List.map_nil, hs, hxx, hr]
  exact h v' w' h2 h3 h4
/-- An empty slice in a block of the call's own. -/
theorem own_nil {w : World} {b base : Nat} {e : TypeId} (h : w.heap[b]? = some (.cells #[] e (0, 0))) (hb : base ≤ b) : w.ownsRow base e 1 (.slice (some ⟨b, 0, none⟩) 0 0) 0 [] :=
  ⟨rfl, .inr ⟨b, 0, #[], rfl, hb, h, Nat.le_refl _, Nat.zero_le _, rfl, rfl⟩⟩
theorem own_ge {B b k n c : Nat} (hb : B ≤ b) (e : (Value.slice (some ⟨b, 0, none⟩) n c).ownBlock = some k) : B ≤ k := by
  have e : b = k := by simpa [Value.ownBlock] using e
  omega
theorem at_or {v' : Value} {b H n c k : Nat} (hat : v'.ownBlock = (Value.slice (some ⟨b, 0, none⟩) n c).ownBlock ∨ v'.ownBlock = some H) (e : v'.ownBlock = some k) : k = b ∨ k = H := by
  rcases hat with h | h
  · left
    rw [h] at e
    have e : b = k := by simpa [Value.ownBlock] using e
    omega
  · right
    rw [h] at e
    injection e with e
    omega
theorem apart_at {v : Value} {b n c : Nat} (h : ∀ k, v.ownBlock = some k → k ≠ b) : apart v (.slice (some ⟨b, 0, none⟩) n c) := fun k e e' => by
  have e' : b = k := by simpa [Value.ownBlock] using e'
  exact h k e e'.symm
theorem apart_or {v v' : Value} {b H n c : Nat} (hat : v'.ownBlock = (Value.slice (some ⟨b, 0, none⟩) n c).ownBlock ∨ v'.ownBlock = some H) (h : ∀ k, v.ownBlock = some k → k ≠ b ∧ k ≠ H) : apart v v' := fun k e e' => by
  have := h k e
  have := at_or hat e'
  omega
theorem cell_on {W w : World} {p : Addr} {v : Value} (hc : W.cell? p = some v) (h : Below W.heap.size W w) : w.cell? p = some v := (h.cell (World.block_lt_of_cell? W p hc)).trans hc
theorem far_one {w : World} {G i : Nat} {p : Addr} {z : Value} (h : w.cell? p = some z) (hne : p.block ≠ G) (u : Value) : (w.setCell ⟨G, i, none⟩ u).cell? p = some z :=
  (World.cell?_of_block (Below.heap_setCell _ _ _ _ hne)).trans h
theorem far_two {w : World} {G i j : Nat} {p : Addr} {z : Value} (h : w.cell? p = some z) (hne : p.block ≠ G) (u v : Value) : ((w.setCell ⟨G, i, none⟩ u).setCell ⟨G, j, none⟩ v).cell? p = some z :=
  far_one (far_one h hne u) hne v
end Go.Proofs.Ytklmhkckhdmelaa
