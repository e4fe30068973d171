/- The open loops in memory: a row of pairs of numbers; the innermost is taken off. No condition. -/
import Derived.Test.YtklmhkckhdmelaaProg
import Derived.Test.YtklmhkckhdmelaaPgD
import Derived.Test.YtklmhkckhdmelaaUnM
import Derived.BigRegion
namespace Go.Proofs.Ytklmhkckhdmelaa
open Go Go.RowKit
/-- Where each open loop begins among the statements so far, and how often it is there; the outermost first. -/
def opens (K : Fr) : List Int := match K with
  | [] => []
  | (n, p) :: K => opens K ++ [((full p K).length : Int), (n : Int)]
theorem opens_length (K : Fr) : (opens K).length = K.length * 2 := by
  induction K with
  | nil => rfl
  | cons f K ih =>
    obtain ⟨n, p⟩ := f
    rw [opens, List.length_append, ih, List.length_cons, List.length_cons, List.length_cons, List.length_nil, Nat.succ_mul]
theorem elemOpen : Elem Try.prog 62 64 2 16 := ⟨Try.underlying62, by
  obtain ⟨i, hi, hz, h1, h2⟩ := info_parts (show (Try.prog.info? 64).map (fun i => (i.zero, i.size, i.bytes)) = some (some (.agg #[.int .i64 0, .int .i64 0]), 2, 16) by kernel_rfl)
  exact ⟨i, _, hi, hz, h1, h2, rfl⟩, by omega⟩
/-- The open loops of a call's own. -/
def OwnF (lo : Nat) (w : World) (v : Value) (K : Fr) : Prop := w.ownsRow lo 64 2 v K.length (intVals (opens K))
theorem OwnF.push {lo n : Nat} {w : World} {v : Value} {K : Fr} {p : List St} {x m : Int} (hx : x = ((full p K).length : Int)) (hm : m = (n : Int))
    (h : w.ownsRow lo 64 2 v (K.length + 1) (intVals (opens K) ++ (#[Value.int .i64 x, .int .i64 m] : Array Value).toList)) : OwnF lo w v ((n, p) :: K) := by
  subst hx hm
  unfold OwnF
  rw [opens, List.length_cons]
  simpa [intVals] using h
/-- A row without its last elements. -/
theorem own_cut {w : World} {base k n c size : Nat} {e : TypeId} {A : Option Addr} {xs ys : List Value} (h : w.ownsRow base e size (.slice A n c) n (xs ++ ys)) (hl : xs.length = k * size) (hk : k ≤ n) : w.ownsRow base e size (.slice A k c) k xs := by
  refine ⟨hl, ?_⟩
  rcases h.2 with ⟨h1, h2⟩ | ⟨g, cap, cur, h1, h2, h3, h4, h5, h6, h7⟩
  · injection h1 with h11 h12 h13
    subst h11 h13
    obtain rfl : k = 0 := by omega
    exact .inl ⟨rfl, rfl⟩
  · injection h1 with h11 h12 h13
    subst h11 h13
    refine .inr ⟨g, c, cur, rfl, h2, h3, by omega, h5, h6, ?_⟩
    have hle : k * size ≤ n * size := Nat.mul_le_mul_right _ hk
    have h8 : (cur.toList.take (n * size)).take (k * size) = (xs ++ ys).take (k * size) := by rw [h7]
    rw [List.take_take, Nat.min_eq_left hle, ← hl, List.take_left] at h8
    rw [← hl]
    exact h8
theorem OwnF.pop {lo m c : Nat} {w : World} {A : Option Addr} {K : Fr} {p : List St} (h : OwnF lo w (.slice A (K.length + 1) c) ((m, p) :: K)) : OwnF lo w (.slice A K.length c) K := by
  unfold OwnF at h
  rw [opens, List.length_cons] at h
  unfold OwnF
  refine own_cut (ys := intVals [((full p K).length : Int), (m : Int)]) (by simpa [intVals] using h) (by rw [intVals_length, opens_length]) (by omega)
/-- What the innermost loop's cells hold. -/
theorem OwnF.top {lo m c : Nat} {w : World} {A : Option Addr} {K : Fr} {p : List St} (h : OwnF lo w (.slice A (K.length + 1) c) ((m, p) :: K)) :
    ∃ g, A = some ⟨g, 0, none⟩ ∧ w.cell? ⟨g, K.length * 2, none⟩ = some (.int .i64 ((full p K).length : Int)) ∧ w.cell? ⟨g, K.length * 2 + 1, none⟩ = some (.int .i64 (m : Int)) ∧ K.length + 1 ≤ c := by
  unfold OwnF at h
  rw [opens, List.length_cons] at h
  rcases h.2 with ⟨h1, h2⟩ | ⟨g, cap, cur, h1, h2, h3, h4, h5, h6, h7⟩
  · omega
  · injection h1 with h11 h12 h13
    subst h11 h13
    have hl := opens_length K
    have e0 : (intVals (opens K ++ [((full p K).length : Int), (m : Int)]))[K.length * 2]? = some (.int .i64 ((full p K).length : Int)) := by
      simp [intVals, hl]
    have e1 : (intVals (opens K ++ [((full p K).length : Int), (m : Int)]))[K.length * 2 + 1]? = some (.int .i64 (m : Int)) := by
      simp [intVals, hl]
    exact ⟨g, rfl, (h.cellAt (K.length * 2) (by omega)).trans e0, (h.cellAt (K.length * 2 + 1) (by omega)).trans e1, h4⟩
set_option maxRecDepth 100000 in
set_option maxHeartbeats 1000000 in
theorem impl_closeInnermost (lo m c : Nat) (A : Option Addr) (K : Fr) (p : List St) (w : World) (h : OwnF lo w (.slice A (K.length + 1) c) ((m, p) :: K)) (hK : K.length ≤ 1000000) :
    Calls Try.prog 38 #[.slice A (K.length + 1) c] w fun e w' => e = .returned (.tuple #[.agg #[.int .i64 ((full p K).length : Int), .int .i64 (m : Int)], .slice A K.length c]) ∧ Below w.heap.size w w' := by
  obtain ⟨g, rfl, c0, c1, hc⟩ := h.top
  generalize hx : ((full p K).length : Int) = x at *
  generalize hy : (m : Int) = y at *
  have hx1 : ¬ c = 0 := by omega
  generalize hq : K.length = q at *
  have q0 : (0 : Int) ≤ q := by omega
  clear h hx hy hq
  have hg : g < w.heap.size := World.block_lt_of_cell? w _ c0
  have m0 := Below.heap_alloc w (.cells #[.int .i64 0, .int .i64 0] 64) g hg
  have d0 : (w.alloc (.cells #[.int .i64 0, .int .i64 0] 64)).cell? ⟨g, q * 2, none⟩ = some (.int .i64 x) := (World.cell?_of_block m0).trans c0
  have d1 : (w.alloc (.cells #[.int .i64 0, .int .i64 0] 64)).cell? ⟨g, q * 2 + 1, none⟩ = some (.int .i64 y) := (World.cell?_of_block m0).trans c1
  have r0 : (w.alloc (.cells #[.int .i64 0, .int .i64 0] 64)).drew.cell? ⟨g, q * 2, none⟩ = some (.int .i64 x) := d0
  have r1 : (w.alloc (.cells #[.int .i64 0, .int .i64 0] 64)).drew.cell? ⟨g, q * 2 + 1, none⟩ = some (.int .i64 y) := d1
  clear m0 c0 c1
  go_enter Try.func38, Try.ntmps38
  go_wp2_with fail
  go_region
  all_goals
    go_wp2_with fail
    go_returns
    exact ⟨rfl, (below_alloc _ _).drew⟩
end Go.Proofs.Ytklmhkckhdmelaa
