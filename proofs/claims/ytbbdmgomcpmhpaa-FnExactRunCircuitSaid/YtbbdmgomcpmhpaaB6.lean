/- Unrolling, in plain lists: the loops as a stack, the blocks of the model, sizes, depths. No condition. And what goes with it. -/
import Derived.Test.YtbbdmgomcpmhpaaB2
import Derived.Test.YtbbdmgomcpmhpaaProg
import Derived.Test.YtbbdmgomcpmhpaaB5
import Derived.BigRegion
namespace Go.Proofs.Ytbbdmgomcpmhpaa
open Go Go.RowKit
/-- A list, n times. -/
def rep (n : Nat) (l : List St) : List St := match n with
  | 0 => []
  | n + 1 => rep n l ++ l
theorem rep_length (n : Nat) (l : List St) : (rep n l).length = n * l.length := by
  induction n with
  | zero => simp [rep]
  | succ n ih => rw [rep, List.length_append, ih, Nat.succ_mul]
theorem rep_mem {n : Nat} {l : List St} {s : St} (h : s ∈ rep n l) : s ∈ l := by
  induction n with
  | zero => simp [rep] at h
  | succ n ih => rw [rep, List.mem_append] at h; exact h.elim ih id
theorem rep_one (n : Nat) (s : St) : rep n [s] = List.replicate n s := by
  induction n with
  | zero => rfl
  | succ n ih => rw [rep, ih, List.replicate_succ']
/-- The open loops, the innermost first: how often, and what stands before it in the block around it. -/
abbrev Fr := List (Nat × List St)
/-- The statements one by one: what the innermost block holds so far, the loops around it. -/
def mach (ss : List St) (C : List St) (K : Fr) : List St × Fr := match ss with
  | [] => (C, K)
  | s :: ss => if s.op = 12 then mach ss [] ((s.n.toNat, C) :: K) else
    if s.op = 13 then (match K with
      | [] => mach ss C []
      | (n, p) :: K => mach ss (p ++ rep n C) K)
    else mach ss (C ++ [s]) K
/-- The statements of the program without loops. -/
def unrollL (ss : List St) : List St := (mach ss [] []).1
theorem mach_append (a b : List St) (C : List St) (K : Fr) : mach (a ++ b) C K = mach b (mach a C K).1 (mach a C K).2 := by
  induction a generalizing C K with
  | nil => rfl
  | cons s a ih =>
    simp only [List.cons_append, mach]
    split
    · exact ih _ _
    · split
      · cases K with
        | nil => exact ih _ _
        | cons f K => exact ih _ _
      · exact ih _ _
section
variable {ss : List St} {k : Nat} {op d a b c n : Int}
theorem drop_at (hk : k < ss.length) (e : ss.getD k s0 = ⟨op, d, a, b, c, n⟩) : ss.drop k = ⟨op, d, a, b, c, n⟩ :: ss.drop (k + 1) := by
  rw [List.getD_eq_getElem?_getD, List.getElem?_eq_getElem hk, Option.getD_some] at e
  rw [List.drop_eq_getElem_cons hk, e]
theorem mach_loop (hk : k < ss.length) (e : ss.getD k s0 = ⟨op, d, a, b, c, n⟩) (h : op = 12) (C : List St) (K : Fr) : mach (ss.drop k) C K = mach (ss.drop (k + 1)) [] ((n.toNat, C) :: K) := by
  rw [drop_at hk e]
  subst h
  rfl
theorem mach_end (hk : k < ss.length) (e : ss.getD k s0 = ⟨op, d, a, b, c, n⟩) (h : op = 13) (C : List St) (m : Nat) (p : List St) (K : Fr) : mach (ss.drop k) C ((m, p) :: K) = mach (ss.drop (k + 1)) (p ++ rep m C) K := by
  rw [drop_at hk e]
  subst h
  rfl
theorem mach_plain (hk : k < ss.length) (e : ss.getD k s0 = ⟨op, d, a, b, c, n⟩) (h12 : op ≠ 12) (h13 : op ≠ 13) (C : List St) (K : Fr) : mach (ss.drop k) C K = mach (ss.drop (k + 1)) (C ++ [⟨op, d, a, b, c, n⟩]) K := by
  rw [drop_at hk e]
  simp [mach, h12, h13]
theorem run_some (hk : k < ss.length) (e : ss.getD k s0 = ⟨op, d, a, b, c, n⟩) {D E : Int} (h : runD (ss.drop k) D = some E) : okI op d a b c n ∧ 0 ≤ D + dl op ∧ D + dl op ≤ 3 ∧ runD (ss.drop (k + 1)) (D + dl op) = some E := by
  rw [runD_step hk e] at h
  split at h
  · rename_i h1
    exact ⟨h1.1, h1.2.1, h1.2.2, h⟩
  · cases h
end
/-- The numbers of times of the loops are 1 to 8. -/
def goodK (K : Fr) : Prop := ∀ f ∈ K, 1 ≤ f.1 ∧ f.1 ≤ 8
theorem goodK.nil : goodK [] := fun _ h => by simp at h
theorem goodK.cons {n : Nat} {p : List St} {K : Fr} (h : goodK K) (hn : 1 ≤ n ∧ n ≤ 8) : goodK ((n, p) :: K) := fun f hf => by
  rcases List.mem_cons.1 hf with rfl | hf
  · exact hn
  · exact h f hf
theorem goodK.tail {f : Nat × List St} {K : Fr} (h : goodK (f :: K)) : goodK K := fun g hg => h g (List.mem_cons_of_mem _ hg)
theorem goodK.head {n : Nat} {p : List St} {K : Fr} (h : goodK ((n, p) :: K)) : 1 ≤ n ∧ n ≤ 8 := h (n, p) (List.mem_cons_self)
/-- How often the innermost block will be there. -/
def wt (K : Fr) : Nat := match K with
  | [] => 1
  | (n, _) :: K => n * wt K
theorem wt_pos {K : Fr} (h : goodK K) : 1 ≤ wt K := by
  induction K with
  | nil => exact Nat.le_refl _
  | cons f K ih =>
    obtain ⟨n, p⟩ := f
    have h1 := h.head
    have h2 := ih h.tail
    rw [wt]
    exact Nat.le_trans h2 (Nat.le_mul_of_pos_left _ (by omega))
theorem wt_le {K : Fr} (h : goodK K) : wt K ≤ 8 ^ K.length := by
  induction K with
  | nil => exact Nat.le_refl _
  | cons f K ih =>
    obtain ⟨n, p⟩ := f
    have h1 := h.head
    have h2 := ih h.tail
    rw [wt, List.length_cons, Nat.pow_succ, Nat.mul_comm]
    exact Nat.mul_le_mul h2 h1.2
def potK (K : Fr) : Nat := match K with
  | [] => 0
  | (_, p) :: K => p.length * wt K + potK K
/-- How many statements there will be, if no more come. -/
def pot (C : List St) (K : Fr) : Nat := C.length * wt K + potK K
theorem pot_end (C p : List St) (m : Nat) (K : Fr) : pot (p ++ rep m C) K = pot C ((m, p) :: K) := by
  simp only [pot, wt, potK, List.length_append, rep_length]
  rw [Nat.add_mul, Nat.mul_comm m, Nat.mul_assoc]
  omega
theorem pot_loop (C : List St) (m : Nat) (K : Fr) : pot [] ((m, C) :: K) = pot C K := by simp [pot, potK]
theorem pot_snoc (C : List St) (s : St) (K : Fr) : pot (C ++ [s]) K = pot C K + wt K := by
  simp only [pot, List.length_append, List.length_cons, List.length_nil]
  rw [Nat.add_mul]
  omega
/-- All statements so far, outer blocks first. -/
def full (C : List St) (K : Fr) : List St := match K with
  | [] => C
  | (_, p) :: K => full p K ++ C
theorem full_app (p q : List St) (K : Fr) : full (p ++ q) K = full p K ++ q := by
  cases K with
  | nil => rfl
  | cons f K => simp [full]
theorem full_nil (n : Nat) (C : List St) (K : Fr) : full [] ((n, C) :: K) = full C K := by simp [full]
theorem full_le {K : Fr} (h : goodK K) (C : List St) : (full C K).length ≤ pot C K := by
  induction K generalizing C with
  | nil => simp [full, pot, wt, potK]
  | cons f K ih =>
    obtain ⟨n, p⟩ := f
    have h1 := ih h.tail p
    have h2 : C.length ≤ C.length * wt ((n, p) :: K) := Nat.le_mul_of_pos_right _ (wt_pos h)
    simp only [full, List.length_append]
    have h3 : pot C ((n, p) :: K) = C.length * wt ((n, p) :: K) + pot p K := by simp [pot, potK]
    omega
/-- From a valid rest on, what there is only grows. -/
theorem mach_grows {ss : List St} {C : List St} {K : Fr} (g : goodK K) (h : runD ss K.length = some 0) : pot C K ≤ ((mach ss C K).1).length ∧ (mach ss C K).2 = [] := by
  induction ss generalizing C K with
  | nil =>
    simp only [runD, Option.some.injEq] at h
    have : K = [] := List.eq_nil_of_length_eq_zero (by omega)
    subst this
    simp [mach, pot, wt, potK]
  | cons s ss ih =>
    simp only [runD] at h
    split at h
    · rename_i hs
      obtain ⟨hok, hD0, hD3⟩ := hs
      unfold St.ok okI at hok
      simp only [mach]
      split
      · rename_i h12
        have e : dl s.op = 1 := by unfold dl; rw [if_pos h12]
        rw [e] at h
        have := ih (C := []) (K := (s.n.toNat, C) :: K) (g.cons (by omega)) (by rw [List.length_cons, ← h]; congr 1)
        rwa [pot_loop] at this
      · rename_i h12
        split
        · rename_i h13
          have e : dl s.op = -1 := by unfold dl; rw [if_neg h12, if_pos h13]
          rw [e] at h hD0
          cases K with
          | nil => simp at hD0
          | cons f K =>
            obtain ⟨m, p⟩ := f
            have := ih (C := p ++ rep m C) (K := K) g.tail (by rw [← h]; congr 1; simp; omega)
            rwa [pot_end] at this
        · rename_i h13
          have e : dl s.op = 0 := by unfold dl; rw [if_neg h12, if_neg h13]
          rw [e, Int.add_zero] at h
          have := ih (C := C ++ [s]) (K := K) g h
          rw [pot_snoc] at this
          exact ⟨by omega, this.2⟩
    · cases h
/-- Where a walk over a valid program stands before its statement k. -/
structure At (ss : List St) (k : Nat) (C : List St) (K : Fr) : Prop where
  same : mach ss [] [] = mach (ss.drop k) C K
  run : runD (ss.drop k) K.length = some 0
  good : goodK K
  small : pot C K ≤ 512 * k
  deep : K.length ≤ 3
theorem At.start {ss : List St} (h : runD ss 0 = some 0) : At ss 0 [] [] := ⟨rfl, h, goodK.nil, by simp [pot, potK], by simp⟩
section
variable {ss : List St} {k : Nat} {C : List St} {K : Fr} {op d a b c n : Int}
theorem At.bound (h : At ss k C K) : (full C K).length ≤ 512 * k := Nat.le_trans (full_le h.good C) h.small
theorem At.under (h : At ss k C K) : (full C K).length ≤ (unrollL ss).length := by
  have h1 := (mach_grows (C := C) h.good h.run).1
  rw [← h.same] at h1
  exact Nat.le_trans (full_le h.good C) h1
theorem At.ok (h : At ss k C K) (hk : k < ss.length) (e : ss.getD k s0 = ⟨op, d, a, b, c, n⟩) : okI op d a b c n := (run_some hk e h.run).1
theorem At.loop (h : At ss k C K) (hk : k < ss.length) (e : ss.getD k s0 = ⟨op, d, a, b, c, n⟩) (h12 : op = 12) : At ss (k + 1) [] ((n.toNat, C) :: K) ∧ 1 ≤ n ∧ n ≤ 8 := by
  obtain ⟨hok, h0, h3, hr⟩ := run_some hk e h.run
  have ed : dl op = 1 := by unfold dl; rw [if_pos h12]
  rw [ed] at hr h3
  unfold okI at hok
  refine ⟨⟨h.same.trans (mach_loop hk e h12 C K), by rw [List.length_cons, ← hr]; congr 1, h.good.cons (by omega), ?_, ?_⟩, by omega, by omega⟩
  · rw [pot_loop]; have := h.small; omega
  · rw [List.length_cons]; omega
theorem At.end_ (h : At ss k C K) (hk : k < ss.length) (e : ss.getD k s0 = ⟨op, d, a, b, c, n⟩) (h13 : op = 13) : ∃ m p K', K = (m, p) :: K' ∧ 1 ≤ m ∧ m ≤ 8 ∧ At ss (k + 1) (p ++ rep m C) K' := by
  obtain ⟨hok, h0, h3, hr⟩ := run_some hk e h.run
  have ed : dl op = -1 := by unfold dl; rw [if_neg (by omega), if_pos h13]
  rw [ed] at hr h0
  cases K with
  | nil => simp at h0
  | cons f K =>
    obtain ⟨m, p⟩ := f
    have hg := h.good.head
    refine ⟨m, p, K, rfl, hg.1, hg.2, ⟨h.same.trans (mach_end hk e h13 C m p K), by rw [← hr]; congr 1; simp; omega, h.good.tail, ?_, ?_⟩⟩
    · rw [pot_end]; have := h.small; omega
    · have := h.deep; rw [List.length_cons] at this; omega
theorem At.plain (h : At ss k C K) (hk : k < ss.length) (e : ss.getD k s0 = ⟨op, d, a, b, c, n⟩) (h12 : op ≠ 12) (h13 : op ≠ 13) : At ss (k + 1) (C ++ [⟨op, d, a, b, c, n⟩]) K := by
  obtain ⟨hok, h0, h3, hr⟩ := run_some hk e h.run
  have ed : dl op = 0 := by unfold dl; rw [if_neg h12, if_neg h13]
  rw [ed, Int.add_zero] at hr
  refine ⟨h.same.trans (mach_plain hk e h12 h13 C K), hr, h.good, ?_, h.deep⟩
  have h1 := wt_le h.good
  have h2 : 8 ^ K.length ≤ 8 ^ 3 := Nat.pow_le_pow_right (by omega) h.deep
  rw [pot_snoc]
  have := h.small
  omega
theorem At.done (h : At ss ss.length C K) : K = [] ∧ unrollL ss = C := by
  have hr := h.run
  rw [runD_end] at hr
  injection hr with hr
  have : K = [] := List.eq_nil_of_length_eq_zero (by omega)
  subst this
  refine ⟨rfl, ?_⟩
  unfold unrollL
  rw [h.same, List.drop_length]
  rfl
end
theorem unroll_small {ss : List St} (h : progI ss) : (unrollL ss).length ≤ 20480 := by
  have key : ∀ j k (C : List St) (K : Fr), k + j = ss.length → At ss k C K → ∃ C', At ss ss.length C' [] := by
    intro j
    induction j with
    | zero =>
      intro k C K hk hA
      obtain rfl : k = ss.length := by omega
      obtain ⟨rfl, _⟩ := hA.done
      exact ⟨C, hA⟩
    | succ j ih =>
      intro k C K hk hA
      have hlt : k < ss.length := by omega
      rcases hs : ss.getD k s0 with ⟨op, d, a, b, c, n⟩
      by_cases h12 : op = 12
      · exact ih (k + 1) _ _ (by omega) (hA.loop hlt hs h12).1
      · by_cases h13 : op = 13
        · obtain ⟨m, p, K', rfl, _, _, hA'⟩ := hA.end_ hlt hs h13
          exact ih (k + 1) _ _ (by omega) hA'
        · exact ih (k + 1) _ _ (by omega) (hA.plain hlt hs h12 h13)
  obtain ⟨C', hA⟩ := key ss.length 0 [] [] (by omega) (At.start h.2)
  have hb := hA.small
  obtain ⟨_, e⟩ := hA.done
  rw [e]
  have hl := h.1
  simp [pot, wt, potK] at hb
  omega
/-- What the model's block has read and laid: from at to p, at depth 3 - h. -/
structure BlkP (ss : List St) (at' : Nat) (h p : Nat) (o : List St) : Prop where
  lo : at' ≤ p
  hi : p ≤ ss.length
  run : runD (ss.drop p) (3 - (h : Int)) = some 0
  same : ∀ C K, mach (ss.drop at') C K = mach (ss.drop p) (C ++ o) K
  len : o.length ≤ (p - at') * 8 ^ h
section
variable {ss : List St} {at' h p : Nat} {o : List St} {op d a b c n : Int}
theorem BlkP.start (hp : at' ≤ ss.length) (hr : runD (ss.drop at') (3 - (h : Int)) = some 0) : BlkP ss at' h at' [] :=
  ⟨Nat.le_refl _, hp, hr, fun C K => by rw [List.append_nil], by simp⟩
theorem BlkP.plain (B : BlkP ss at' h p o) (hk : p < ss.length) (e : ss.getD p s0 = ⟨op, d, a, b, c, n⟩) (h12 : op ≠ 12) (h13 : op ≠ 13) : BlkP ss at' h (p + 1) (o ++ [⟨op, d, a, b, c, n⟩]) := by
  obtain ⟨hok, h0, h3, hr⟩ := run_some hk e B.run
  have ed : dl op = 0 := by unfold dl; rw [if_neg h12, if_neg h13]
  rw [ed, Int.add_zero] at hr
  have hlo := B.lo
  refine ⟨by omega, hk, hr, fun C K => by rw [B.same, mach_plain hk e h12 h13, List.append_assoc], ?_⟩
  have h1 := B.len
  have h2 : 1 ≤ 8 ^ h := Nat.one_le_pow _ _ (by omega)
  rw [List.length_append, List.length_cons, List.length_nil, show p + 1 - at' = (p - at') + 1 by omega, Nat.succ_mul]
  omega
theorem BlkP.deeper (B : BlkP ss at' h p o) (hk : p < ss.length) (e : ss.getD p s0 = ⟨op, d, a, b, c, n⟩) (h12 : op = 12) : ∃ h', h = h' + 1 ∧ 1 ≤ n ∧ n ≤ 8 ∧ runD (ss.drop (p + 1)) (3 - (h' : Int)) = some 0 := by
  obtain ⟨hok, h0, h3, hr⟩ := run_some hk e B.run
  have ed : dl op = 1 := by unfold dl; rw [if_pos h12]
  rw [ed] at hr h3
  unfold okI at hok
  cases h with
  | zero => simp at h3
  | succ h' => exact ⟨h', rfl, by omega, by omega, by rw [← hr]; congr 1; omega⟩
theorem BlkP.loop {h' q : Nat} {t : List St} (B : BlkP ss at' (h' + 1) p o) (hk : p < ss.length) (e : ss.getD p s0 = ⟨op, d, a, b, c, n⟩) (h12 : op = 12) (T : BlkP ss (p + 1) h' q t)
    (hq : q < ss.length) {op' d' a' b' c' n' : Int} (e' : ss.getD q s0 = ⟨op', d', a', b', c', n'⟩) (h13 : op' = 13) (hn : 1 ≤ n ∧ n ≤ 8) : BlkP ss at' (h' + 1) (q + 1) (o ++ rep n.toNat t) := by
  obtain ⟨hok, h0, h3, hr⟩ := run_some hq e' T.run
  have ed : dl op' = -1 := by unfold dl; rw [if_neg (by omega), if_pos h13]
  rw [ed] at hr
  have hlo := B.lo
  have hlo' := T.lo
  refine ⟨by omega, hq, by rw [← hr]; congr 1; omega, fun C K => by rw [B.same, mach_loop hk e h12, T.same, List.nil_append, mach_end hq e' h13, List.append_assoc], ?_⟩
  have h1 := B.len
  have h2 := T.len
  rw [List.length_append, rep_length]
  obtain ⟨x, hx⟩ : ∃ x, 8 ^ h' = x := ⟨_, rfl⟩
  rw [Nat.pow_succ, hx] at h1 ⊢
  rw [hx] at h2
  have h4 : n.toNat * t.length ≤ 8 * ((q - (p + 1)) * x) := Nat.mul_le_mul (by omega) h2
  obtain ⟨u, hu⟩ : ∃ u, p - at' = u := ⟨_, rfl⟩
  obtain ⟨v, hv⟩ : ∃ v, q - (p + 1) = v := ⟨_, rfl⟩
  have e1 : q + 1 - at' = u + v + 2 := by omega
  rw [e1]
  rw [hu] at h1
  rw [hv] at h4
  have e2 : (u + v + 2) * (x * 8) = u * (x * 8) + 8 * (v * x) + 2 * (x * 8) := by
    rw [Nat.add_mul, Nat.add_mul, show v * (x * 8) = 8 * (v * x) by rw [← Nat.mul_assoc, Nat.mul_comm]]
  rw [e2]
  omega
theorem BlkP.open_ (T : BlkP ss at' h p o) (hh : h ≤ 2) : p < ss.length := by
  rcases Nat.lt_or_ge p ss.length with h1 | h1
  · exact h1
  · have hp : p = ss.length := by have := T.hi; omega
    have hr := T.run
    rw [hp, runD_end] at hr
    injection hr with hr
    omega
theorem BlkP.all (T : BlkP ss 0 3 p o) (hend : p < ss.length → (ss.getD p s0).op = 13) : unrollL ss = o ∧ p = ss.length := by
  have hp : p = ss.length := by
    rcases Nat.lt_or_ge p ss.length with h1 | h1
    · rcases hs : ss.getD p s0 with ⟨op, d, a, b, c, n⟩
      have h13 := hend h1
      rw [hs] at h13
      obtain ⟨_, h0, _, _⟩ := run_some h1 hs T.run
      have ed : dl op = -1 := by unfold dl; rw [if_neg (by simp at h13; omega), if_pos h13]
      rw [ed] at h0
      simp at h0
    · have := T.hi; omega
  refine ⟨?_, hp⟩
  have := T.same [] []
  rw [hp, List.drop_length, List.drop_zero] at this
  unfold unrollL
  rw [this]
  simp [mach]
end
/-- The greatest depth, from a depth and a greatest depth so far. -/
def deepN (ss : List St) (D M : Int) : Int := match ss with
  | [] => M
  | s :: ss => deepN ss (D + dl s.op) (max M (D + dl s.op))
theorem deepN_step {ss : List St} {k : Nat} {D M : Int} (hk : k < ss.length) {op d a b c n : Int} (e : ss.getD k s0 = ⟨op, d, a, b, c, n⟩) :
    deepN (ss.drop k) D M = deepN (ss.drop (k + 1)) (D + dl op) (max M (D + dl op)) := by rw [drop_at hk e, deepN]
theorem deepN_end (ss : List St) (D M : Int) : deepN (ss.drop ss.length) D M = M := by rw [List.drop_length]; rfl
theorem deepN_ge (ss : List St) (D M : Int) : M ≤ deepN ss D M := by
  induction ss generalizing D M with
  | nil => exact Int.le_refl _
  | cons s ss ih => exact Int.le_trans (Int.le_max_left _ _) (ih _ _)
theorem deepN_le {ss : List St} {D E M : Int} (h : runD ss D = some E) (hM : M ≤ 3) : deepN ss D M ≤ 3 := by
  induction ss generalizing D M with
  | nil => exact hM
  | cons s ss ih =>
    simp only [runD] at h
    split at h
    · rename_i hs
      exact ih h (by omega)
    · cases h
def depthI (ss : List St) : Int := if progI ss then deepN ss 0 0 else -1
theorem mach_flat {ss : List St} {C : List St} (h : runD ss 0 = some 0) (hd : deepN ss 0 0 = 0) : mach ss C [] = (C ++ ss, []) := by
  induction ss generalizing C with
  | nil => simp [mach]
  | cons s ss ih =>
    simp only [runD] at h
    simp only [deepN] at hd
    split at h
    · rename_i hs
      have hg := deepN_ge ss (0 + dl s.op) (max 0 (0 + dl s.op))
      simp only [mach]
      split
      · rename_i h12
        have e : dl s.op = 1 := by unfold dl; rw [if_pos h12]
        rw [e] at hd hg
        omega
      · rename_i h12
        split
        · rename_i h13
          have e : dl s.op = -1 := by unfold dl; rw [if_neg h12, if_pos h13]
          rw [e] at hs
          omega
        · rename_i h13
          have e : dl s.op = 0 := by unfold dl; rw [if_neg h12, if_neg h13]
          rw [e] at h hd
          rw [ih h hd, List.append_assoc]
          rfl
    · cases h
theorem unroll_flat {ss : List St} (h : progI ss) (hd : deepN ss 0 0 = 0) : unrollL ss = ss := by
  unfold unrollL
  rw [mach_flat h.2 hd]
  rfl
/-- No loop and no end is among them. -/
def plainL (l : List St) : Prop := ∀ s ∈ l, s.op ≠ 12 ∧ s.op ≠ 13
theorem mach_pl {ss : List St} {C : List St} {K : Fr} (hC : plainL C) (hK : ∀ f ∈ K, plainL f.2) : plainL (mach ss C K).1 := by
  induction ss generalizing C K with
  | nil => exact hC
  | cons s ss ih =>
    simp only [mach]
    split
    · exact ih (fun _ h => by simp at h) (fun f hf => by
        rcases List.mem_cons.1 hf with rfl | hf
        · exact hC
        · exact hK f hf)
    · rename_i h12
      split
      · cases K with
        | nil => exact ih hC (fun f hf => by simp at hf)
        | cons f K =>
          refine ih (fun s hs => ?_) (fun g hg => hK g (List.mem_cons_of_mem _ hg))
          rcases List.mem_append.1 hs with hs | hs
          · exact hK f (List.mem_cons_self) s hs
          · exact hC s (rep_mem hs)
      · rename_i h13
        refine ih (fun t ht => ?_) hK
        rcases List.mem_append.1 ht with ht | ht
        · exact hC t ht
        · simp at ht; subst ht; exact ⟨h12, h13⟩
theorem unroll_plain (ss : List St) : plainL (unrollL ss) := mach_pl (fun _ h => by simp at h) (fun _ h => by simp at h)
/-- How many outs. -/
def outs (l : List St) : Nat := match l with
  | [] => 0
  | s :: l => (if s.op = 11 then 1 else 0) + outs l
theorem outs_append (a b : List St) : outs (a ++ b) = outs a + outs b := by
  induction a with
  | nil => simp [outs]
  | cons s a ih => simp only [List.cons_append, outs, ih]; omega
theorem outs_le (l : List St) : outs l ≤ l.length := by
  induction l with
  | nil => exact Nat.le_refl _
  | cons s l ih => simp only [outs, List.length_cons]; split <;> omega
theorem outs_step {l : List St} {k : Nat} (hk : k < l.length) {op d a b c n : Int} (e : l.getD k s0 = ⟨op, d, a, b, c, n⟩) : outs (l.drop k) = (if op = 11 then 1 else 0) + outs (l.drop (k + 1)) := by
  rw [drop_at hk e, outs]
/-- A program that ends with an out has one without its loops too. -/
theorem outs_last {ss : List St} {s : St} (h : progI (ss ++ [s])) (hs : s.op = 11) : 1 ≤ outs (unrollL (ss ++ [s])) := by
  have h2 := h.2
  unfold unrollL
  rw [mach_append]
  generalize mach ss [] [] = r
  obtain ⟨C, K⟩ := r
  simp only [mach]
  rw [if_neg (by omega), if_neg (by omega)]
  show 1 ≤ outs (C ++ [s])
  rw [outs_append]
  simp [outs, hs]
def sizeI (ss : List St) : Int := if progI ss then ((unrollL ss).length : Int) else -1
def unrI (ss : List St) : Prop := progI ss ∧ (unrollL ss).length ≤ 120
instance (ss : List St) : Decidable (unrI ss) := by unfold unrI; infer_instance
def unrV (ss : List St) : List St := if unrI ss then unrollL ss else []
def outsI (ss : List St) : Int := if unrI ss then (outs (unrollL ss) : Int) else -1
end Go.Proofs.Ytbbdmgomcpmhpaa

namespace Go.Proofs.Ytbbdmgomcpmhpaa
open Go Go.RowKit
/-- The numbers zs from the address A on; where they lie in the slice v's own block, among its first n elements. -/
def Src (size : Nat) (w : World) (v : Value) (n : Nat) (A : Option Addr) (zs : List Int) : Prop :=
  zs = [] ∨ ∃ g o, A = some ⟨g, o, none⟩ ∧ g < w.heap.size ∧ (∀ j, j < zs.length → w.cell? ⟨g, o + j, none⟩ = some (.int .i64 (zs.getD j 0))) ∧ (v.ownBlock = some g → o + zs.length ≤ n * size)
theorem Src.ints {size n : Nat} {w : World} {v : Value} {A : Option Addr} {zs : List Int} (h : Src size w v n A zs) : Ints w A zs := by
  rcases h with rfl | ⟨g, o, e, hg, hc, -⟩
  · exact fun h0 => by simp at h0
  · exact fun _ => ⟨g, o, e, hg, hc⟩
theorem row_at {w : World} {base n c size g : Nat} {e : TypeId} {xs : List Value} (h : w.ownsRow base e size (.slice (some ⟨g, 0, none⟩) n c) n xs) {j : Nat} (hj : j < n * size) : w.cell? ⟨g, j, none⟩ = xs[j]? := h.cellAt j hj
/-- append, with what becomes of such numbers. -/
theorem run_app_src {P : Program} {t e : TypeId} {size bytes : Nat} {w : World} (L : Elem P t e size bytes) (ty : TypeId) (base : Nat) (v : Value) (n : Nat) (xs : List Value) (hown : w.ownsRow base e size v n xs)
    (A : Option Addr) (m c : Nat) (zs : List Int) (hz : Src size w v n A zs) (hl : zs.length = m * size) (h63 : n + m ≤ maxLen) (hbytes : (n + m) * bytes ≤ 140737488355328) (hbase : base ≤ w.heap.size) :
    ∃ v' w', (Builtin.append_ #[t, t] ty #[v, .slice A m c]).run P w = .ok v' w' ∧ w'.ownsRow base e size v' (n + m) (xs ++ intVals zs) ∧ w.grownBy w' v.ownBlock ∧ (v'.ownBlock = v.ownBlock ∨ v'.ownBlock = some w.heap.size) ∧ Src size w' v' (n + m) A zs := by
  obtain ⟨v', w', hr, h2, h3, h4⟩ := run_app_cells (P := P) L ty base v n xs hown A m c zs hz.ints hl h63 hbytes hbase
  refine ⟨v', w', hr, h2, h3, h4, ?_⟩
  rcases hz with rfl | ⟨g, o, rfl, hg, hc, hin⟩
  · exact .inl rfl
  have hle : n * size ≤ (n + m) * size := Nat.mul_le_mul_right _ (by omega)
  by_cases hv : v.ownBlock = some g
  case neg =>
    refine .inr ⟨g, o, rfl, Nat.lt_of_lt_of_le hg h3.size, fun j hj => ?_, fun e' => ?_⟩
    · exact (World.cell?_of_block (h3.block g hg (fun e' => hv e'.symm))).trans (hc j hj)
    · rcases h4 with h | h
      · exact absurd (h ▸ e') hv
      · rw [h] at e'; injection e' with e'; omega
  have hin := hin hv
  -- the slice's own block: its first n elements stay
  have keep : ∀ j, j < n * size → w'.cell? ⟨g, j, none⟩ = w.cell? ⟨g, j, none⟩ := by
    rcases hown.2 with ⟨rfl, _⟩ | ⟨g', cap, cur, rfl, hbg, hgc, hnc, hcm, hcs, htake⟩
    · simp [Value.ownBlock] at hv
    obtain rfl : g' = g := by simpa [Value.ownBlock] using hv
    intro j hj
    have hw := row_at hown hj
    have hsame : v'.ownBlock = some g' → w'.cell? ⟨g', j, none⟩ = w.cell? ⟨g', j, none⟩ := fun e' => by
      rcases h2.2 with ⟨rfl, _⟩ | ⟨g2, cap2, cur2, rfl, _⟩
      · simp [Value.ownBlock] at e'
      obtain rfl : g2 = g' := by simpa [Value.ownBlock] using e'
      rw [row_at h2 (by omega), hw, List.getElem?_append_left (by rw [hown.1]; exact hj)]
    rcases h4 with h | h
    · exact hsame (h.trans hv)
    obtain ⟨i, z, hi, hzz, hz1, hz2, hz3⟩ := L.info
    subst hz1 hz2
    have hnews : ∀ j u, (intVals zs)[j]? = some u → w.cell? ((⟨g', o, none⟩ : Addr).add j) = some u := fun j u hu => by
      have hj : j < zs.length := by
        rcases Nat.lt_or_ge j zs.length with h | h
        · exact h
        · rw [List.getElem?_eq_none (by rw [intVals_length]; exact h)] at hu; cases hu
      have hadd : (⟨g', o, none⟩ : Addr).add j = ⟨g', o + j, none⟩ := by
        rcases Nat.eq_zero_or_pos j with h | h
        · subst h; simp [Addr.add]
        · simp [Addr.add, Nat.ne_of_gt h]
      rw [hadd, hc j hj, ← hu]
      simp [intVals, List.getD_eq_getElem?_getD, List.getElem?_eq_getElem hj]
    have hmx : n + m ≤ 9223372036854775807 := by unfold maxLen at h63; omega
    by_cases hroom : n + m ≤ cap
    · have hfit : n * i.size + (intVals zs).length ≤ cur.size := by rw [intVals_length, hl, hcs, ← Nat.add_mul]; exact Nat.mul_le_mul_right _ hroom
      have hr2 := run_append_room (P := P) w t ty e i L.ht hi g' n cap cur hgc ⟨g', o, none⟩ m c (intVals zs) (by rw [intVals_length]; exact hl) hnews (oneCell_i64 zs) hroom hfit
      rw [hr] at hr2
      injection hr2 with hr3 _
      exact hsame (by rw [hr3]; rfl)
    · have hr2 := run_append_grow (P := P) w t ty e i z L.ht hi hzz ⟨g', 0, none⟩ n cap xs hown.1 (hown.cells (g := g') rfl) ⟨g', o, none⟩ m c (intVals zs) (by rw [intVals_length]; exact hl) hnews (by omega) (by omega) (growslice_fits (by omega) hbytes)
      rw [hr] at hr2
      injection hr2 with _ hr3
      rw [hr3]
      exact World.cell?_of_block (Below.heap_alloc w.drew _ g' hg)
  refine .inr ⟨g, o, rfl, Nat.lt_of_lt_of_le hg h3.size, fun j hj => ?_, fun _ => by omega⟩
  rw [keep (o + j) (by omega)]
  exact hc j hj
/-- The same in a plain region. -/
theorem app_src {P : Program} {t e : TypeId} {size bytes : Nat} {w : World} (L : Elem P t e size bytes) {ops : Array Oper} {rest : List Oper} {o : Oper} {a : Act} {Q : Exit → Act → World → Prop} (hgd : o.guard = none) (s x : Operand)
    (ho : o.op = .call { callee := .builtin .append, args := #[s, x], argTypes := #[t, t] }) (base : Nat) (v : Value) (n : Nat) (xs : List Value) (hs : a.eval s = v) (hown : w.ownsRow base e size v n xs)
    (A : Option Addr) (m c : Nat) (zs : List Int) (hxx : a.eval x = .slice A m c) (hz : Src size w v n A zs) (hl : zs.length = m * size) (h63 : n + m ≤ maxLen) (hbytes : (n + m) * bytes ≤ 140737488355328) (hbase : base ≤ w.heap.size)
    (h : ∀ v' w', w'.ownsRow base e size v' (n + m) (xs ++ intVals zs) → w.grownBy w' v.ownBlock → (v'.ownBlock = v.ownBlock ∨ v'.ownBlock = some w.heap.size) → Src size w' v' (n + m) A zs → wpList P ops Q rest (a.put o.dst v') w') : wpList P ops Q (o :: rest) a w := by
  obtain ⟨v', w', hr, h2, h3, h4, h5⟩ := run_app_src (P := P) L o.type base v n xs hown A m c zs hz hl h63 hbytes hbase
  refine wpList_plain hgd fun _ hK => ?_
  unfold Oper.wp execOp
  simp only [ho, resolve, invoke, builtin, Sem.run_bind, Sem.run_pure, Result.andThen_ok, List.map_toArray, List.map_cons, List.map_nil, hs, hxx, hr]
  exact hK _ _ (h v' w' h2 h3 h4 h5)
/-- The last elements of a slice of the call's own. -/
theorem Src.tail {lo sl st cap : Nat} {w : World} {A : Option Addr} {ss ts : List St} (h : OwnS lo w (.slice A sl cap) sl (ss ++ ts)) (hl : ss.length = st) (A' : Option Addr) (hA : ts ≠ [] → ∀ g, A = some ⟨g, 0, none⟩ → A' = some ⟨g, st * 6, none⟩) : Src 6 w (.slice A sl cap) sl A' (flat ts) := by
  rcases ts with _ | ⟨s, ts⟩
  · exact .inl rfl
  generalize hts : s :: ts = us at *
  have hne : us ≠ [] := by rw [← hts]; simp
  have hll : ss.length + us.length = sl := by have := OwnS.len h; rw [List.length_append] at this; exact this
  have hpos : 0 < us.length := by rw [← hts]; simp
  rcases h.2 with ⟨h1, h2⟩ | ⟨g, cap', cur, h1, h2, h3, h4⟩
  · omega
  · injection h1 with h11 h12 h13
    subst h11
    refine .inr ⟨g, st * 6, hA hne g rfl, (Array.getElem?_eq_some_iff.1 h3).1, fun j hj => ?_, fun _ => by rw [flat_length]; omega⟩
    rw [flat_length] at hj
    have h5 : w.cell? ⟨g, st * 6 + j, none⟩ = _ := h.cellAt (st * 6 + j) (by omega)
    have h6 := flat_length ss
    have h7 := flat_length us
    rw [h5, flat_append]
    simp only [intVals, List.map_append]
    rw [List.getElem?_append_right (by rw [List.length_map]; omega), List.length_map, show st * 6 + j - (flat ss).length = j by omega, List.getElem?_map, List.getD_eq_getElem?_getD, List.getElem?_eq_getElem (by omega)]
    rfl
end Go.Proofs.Ytbbdmgomcpmhpaa

namespace Go.Proofs.Ytbbdmgomcpmhpaa
open Go Go.RowKit
/-- Where each open loop begins among the statements so far, and how often it is there; the outermost first. -/
def opens (K : Fr) : List Int := match K with
  | [] => []
  | (n, p) :: K => opens K ++ [((full p K).length : Int), (n : Int)]
theorem opens_length (K : Fr) : (opens K).length = K.length * 2 := by
  induction K with
  | nil => rfl
  | cons f K ih =>
    obtain ⟨n, p⟩ := f
    rw [opens, List.length_append, ih, List.length_cons, List.length_cons, List.length_cons, List.length_nil, Nat.succ_mul]
theorem elemOpen : Elem Try.prog 90 92 2 16 := ⟨Try.underlying90, by
  obtain ⟨i, hi, hz, h1, h2⟩ := info_parts (show (Try.prog.info? 92).map (fun i => (i.zero, i.size, i.bytes)) = some (some (.agg #[.int .i64 0, .int .i64 0]), 2, 16) by kernel_rfl)
  exact ⟨i, _, hi, hz, h1, h2, rfl⟩, by omega⟩
/-- The open loops of a call's own. -/
def OwnF (lo : Nat) (w : World) (v : Value) (K : Fr) : Prop := w.ownsRow lo 92 2 v K.length (intVals (opens K))
theorem OwnF.push {lo n : Nat} {w : World} {v : Value} {K : Fr} {p : List St} {x m : Int} (hx : x = ((full p K).length : Int)) (hm : m = (n : Int))
    (h : w.ownsRow lo 92 2 v (K.length + 1) (intVals (opens K) ++ (#[Value.int .i64 x, .int .i64 m] : Array Value).toList)) : OwnF lo w v ((n, p) :: K) := by
  subst hx hm
  unfold OwnF
  rw [opens, List.length_cons]
  simpa [intVals] using h
/-- A row without its last elements. -/
theorem own_cut {w : World} {base k n c size : Nat} {e : TypeId} {A : Option Addr} {xs ys : List Value} (h : w.ownsRow base e size (.slice A n c) n (xs ++ ys)) (hl : xs.length = k * size) (hk : k ≤ n) : w.ownsRow base e size (.slice A k c) k xs := by
  refine ⟨hl, ?_⟩
  rcases h.2 with ⟨h1, h2⟩ | ⟨g, cap, cur, h1, h2, h3, h4, h5, h6, h7⟩
  · injection h1 with h11 h12 h13
    subst h11 h13
    obtain rfl : k = 0 := by omega
    exact .inl ⟨rfl, rfl⟩
  · injection h1 with h11 h12 h13
    subst h11 h13
    refine .inr ⟨g, c, cur, rfl, h2, h3, by omega, h5, h6, ?_⟩
    have hle : k * size ≤ n * size := Nat.mul_le_mul_right _ hk
    have h8 : (cur.toList.take (n * size)).take (k * size) = (xs ++ ys).take (k * size) := by rw [h7]
    rw [List.take_take, Nat.min_eq_left hle, ← hl, List.take_left] at h8
    rw [← hl]
    exact h8
theorem OwnF.pop {lo m c : Nat} {w : World} {A : Option Addr} {K : Fr} {p : List St} (h : OwnF lo w (.slice A (K.length + 1) c) ((m, p) :: K)) : OwnF lo w (.slice A K.length c) K := by
  unfold OwnF at h
  rw [opens, List.length_cons] at h
  unfold OwnF
  refine own_cut (ys := intVals [((full p K).length : Int), (m : Int)]) (by simpa [intVals] using h) (by rw [intVals_length, opens_length]) (by omega)
/-- What the innermost loop's cells hold. -/
theorem OwnF.top {lo m c : Nat} {w : World} {A : Option Addr} {K : Fr} {p : List St} (h : OwnF lo w (.slice A (K.length + 1) c) ((m, p) :: K)) :
    ∃ g, A = some ⟨g, 0, none⟩ ∧ w.cell? ⟨g, K.length * 2, none⟩ = some (.int .i64 ((full p K).length : Int)) ∧ w.cell? ⟨g, K.length * 2 + 1, none⟩ = some (.int .i64 (m : Int)) ∧ K.length + 1 ≤ c := by
  unfold OwnF at h
  rw [opens, List.length_cons] at h
  rcases h.2 with ⟨h1, h2⟩ | ⟨g, cap, cur, h1, h2, h3, h4, h5, h6, h7⟩
  · omega
  · injection h1 with h11 h12 h13
    subst h11 h13
    have hl := opens_length K
    have e0 : (intVals (opens K ++ [((full p K).length : Int), (m : Int)]))[K.length * 2]? = some (.int .i64 ((full p K).length : Int)) := by
      simp [intVals, hl]
    have e1 : (intVals (opens K ++ [((full p K).length : Int), (m : Int)]))[K.length * 2 + 1]? = some (.int .i64 (m : Int)) := by
      simp [intVals, hl]
    exact ⟨g, rfl, (h.cellAt (K.length * 2) (by omega)).trans e0, (h.cellAt (K.length * 2 + 1) (by omega)).trans e1, h4⟩
set_option maxRecDepth 100000 in
set_option maxHeartbeats 1000000 in
theorem impl_closeInnermost (lo m c : Nat) (A : Option Addr) (K : Fr) (p : List St) (w : World) (h : OwnF lo w (.slice A (K.length + 1) c) ((m, p) :: K)) (hK : K.length ≤ 1000000) :
    Calls Try.prog 59 #[.slice A (K.length + 1) c] w fun e w' => e = .returned (.tuple #[.agg #[.int .i64 ((full p K).length : Int), .int .i64 (m : Int)], .slice A K.length c]) ∧ Below w.heap.size w w' := by
  obtain ⟨g, rfl, c0, c1, hc⟩ := h.top
  generalize hx : ((full p K).length : Int) = x at *
  generalize hy : (m : Int) = y at *
  have hx1 : ¬ c = 0 := by omega
  generalize hq : K.length = q at *
  have q0 : (0 : Int) ≤ q := by omega
  clear h hx hy hq
  have hg : g < w.heap.size := World.block_lt_of_cell? w _ c0
  have m0 := Below.heap_alloc w (.cells #[.int .i64 0, .int .i64 0] 92) g hg
  have d0 : (w.alloc (.cells #[.int .i64 0, .int .i64 0] 92)).cell? ⟨g, q * 2, none⟩ = some (.int .i64 x) := (World.cell?_of_block m0).trans c0
  have d1 : (w.alloc (.cells #[.int .i64 0, .int .i64 0] 92)).cell? ⟨g, q * 2 + 1, none⟩ = some (.int .i64 y) := (World.cell?_of_block m0).trans c1
  have r0 : (w.alloc (.cells #[.int .i64 0, .int .i64 0] 92)).drew.cell? ⟨g, q * 2, none⟩ = some (.int .i64 x) := d0
  have r1 : (w.alloc (.cells #[.int .i64 0, .int .i64 0] 92)).drew.cell? ⟨g, q * 2 + 1, none⟩ = some (.int .i64 y) := d1
  clear m0 c0 c1
  go_enter Try.func59, Try.ntmps59
  go_wp2_with fail
  go_region
  all_goals
    go_wp2_with fail
    go_returns
    exact ⟨rfl, (below_alloc _ _).drew⟩
end Go.Proofs.Ytbbdmgomcpmhpaa
