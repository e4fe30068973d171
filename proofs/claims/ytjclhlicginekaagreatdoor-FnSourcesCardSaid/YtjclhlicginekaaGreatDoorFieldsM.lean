/- The fields of joined fields. No program in this text but the seat's own words. -/
import Derived.Test.YtjclhlicginekaaGreatDoorSplit
namespace Go.Proofs.YtjclhlicginekaaGreatDoor
open Go Go.RowKit
def joinL (F : List (List UInt8)) : List UInt8 := F.flatMap fun f => f ++ [32]
def goodF (f : List UInt8) : Prop := f ≠ [] ∧ ∀ c, c ∈ f → okB c ∧ c.toNat ≠ 32
theorem fold_field (f : List UInt8) : ∀ (fs : List (List UInt8)) (cur : List UInt8), (∀ c, c ∈ f → okB c ∧ c.toNat ≠ 32) → f.foldl stepF (fs, cur) = (fs, cur ++ f) := by
  induction f with
  | nil => intro fs cur _; simp
  | cons c r ih =>
    intro fs cur h
    have hc := (h c (List.mem_cons_self ..)).2
    have e : stepF (fs, cur) c = (fs, cur ++ [c]) := by unfold stepF; rw [if_neg hc]
    rw [List.foldl_cons, e, ih _ _ (fun x hx => h x (List.mem_cons_of_mem _ hx)), List.append_assoc]
    rfl
theorem fold_join (F : List (List UInt8)) : ∀ (fs : List (List UInt8)), (∀ f, f ∈ F → goodF f) → (joinL F).foldl stepF (fs, []) = (fs ++ F, []) := by
  induction F with
  | nil => intro fs _; simp [joinL]
  | cons f r ih =>
    intro fs h
    have hf := h f (List.mem_cons_self ..)
    have e : joinL (f :: r) = (f ++ [32]) ++ joinL r := rfl
    have e2 : stepF (fs, f) 32 = (fs ++ [f], []) := by
      unfold stepF closeF
      rw [if_pos (by decide), if_neg hf.1]
    rw [e, List.foldl_append, List.foldl_append, fold_field f fs [] hf.2, List.nil_append, List.foldl_cons, List.foldl_nil, e2, ih _ (fun x hx => h x (List.mem_cons_of_mem _ hx)), List.append_assoc]
    rfl
theorem fieldsL_join {F : List (List UInt8)} (h : ∀ f, f ∈ F → goodF f) : fieldsL (joinL F) = F := by
  unfold fieldsL scanF
  rw [fold_join F [] h]
  simp [closeF]
def GoodSt (n : Nat) (st : List (List UInt8) × List UInt8) : Prop := (∀ f, f ∈ st.1 → goodF f ∧ f.length ≤ n) ∧ (∀ c, c ∈ st.2 → okB c ∧ c.toNat ≠ 32) ∧ st.2.length ≤ n
theorem close_good {n : Nat} {st : List (List UInt8) × List UInt8} (h : GoodSt n st) : ∀ f, f ∈ closeF st → goodF f ∧ f.length ≤ n := by
  intro f hf
  unfold closeF at hf
  split at hf
  · exact h.1 f hf
  · rename_i hne
    rcases List.mem_append.1 hf with hf | hf
    · exact h.1 f hf
    · rw [List.mem_singleton] at hf
      subst hf
      exact ⟨⟨hne, h.2.1⟩, h.2.2⟩
theorem fold_good (l : List UInt8) : ∀ (n : Nat) (st : List (List UInt8) × List UInt8), GoodSt n st → (∀ c, c ∈ l → okB c) → GoodSt (n + l.length) (l.foldl stepF st) := by
  induction l with
  | nil => intro n st h _; exact h
  | cons c r ih =>
    intro n st h hl
    have hs : GoodSt (n + 1) (stepF st c) := by
      unfold stepF
      by_cases hc : c.toNat = 32
      · rw [if_pos hc]
        exact ⟨fun f hf => ⟨(close_good h f hf).1, by have := (close_good h f hf).2; omega⟩, fun c hc => by simp at hc, Nat.zero_le _⟩
      · rw [if_neg hc]
        refine ⟨fun f hf => ⟨(h.1 f hf).1, by have := (h.1 f hf).2; omega⟩, fun x hx => ?_, by simp; exact h.2.2⟩
        rcases List.mem_append.1 hx with hx | hx
        · exact h.2.1 x hx
        · rw [List.mem_singleton] at hx
          subst hx
          exact ⟨hl x (List.mem_cons_self ..), hc⟩
    have := ih (n + 1) (stepF st c) hs (fun x hx => hl x (List.mem_cons_of_mem _ hx))
    rw [List.foldl_cons, List.length_cons, show n + (r.length + 1) = n + 1 + r.length by omega]
    exact this
theorem fields_good {l : List UInt8} (h : splitOK l) : ∀ f, f ∈ fieldsL l → goodF f ∧ f.length ≤ 600 := by
  have hall : ∀ c, c ∈ l → okB c := fun c hc => by
    obtain ⟨j, hj, rfl⟩ := List.getElem_of_mem hc
    have := h.2.1 j hj
    rwa [List.getD_eq_getElem?_getD, List.getElem?_eq_getElem hj] at this
  have hg := fold_good l 0 ([], []) ⟨fun f hf => by simp at hf, fun c hc => by simp at hc, Nat.le_refl _⟩ hall
  intro f hf
  have := close_good hg f hf
  exact ⟨this.1, by have h2 := this.2; have := h.1; omega⟩
theorem join_ok {l : List UInt8} (h : splitOK l) (hs : (joinL (fieldsL l)).length ≤ 600) : splitOK (joinL (fieldsL l)) := by
  have hg := fields_good h
  refine ⟨hs, fun j hj => ?_, by rw [fieldsL_join fun f hf => (hg f hf).1]; exact h.2.2⟩
  rw [List.getD_eq_getElem?_getD, List.getElem?_eq_getElem hj]
  have hm : (joinL (fieldsL l))[j] ∈ joinL (fieldsL l) := List.getElem_mem hj
  obtain ⟨f, hf, hc⟩ := List.mem_flatMap.1 hm
  rcases List.mem_append.1 hc with hc | hc
  · exact ((hg f hf).1.2 _ hc).1
  · rw [List.mem_singleton] at hc
    show okB ((joinL (fieldsL l))[j])
    rw [hc]; unfold okB; decide
theorem joinL_snoc (F : List (List UInt8)) (i : Nat) (h : i < F.length) : joinL (F.take (i + 1)) = joinL (F.take i) ++ (F[i] ++ [32]) := by
  rw [List.take_succ_eq_append_getElem h]; unfold joinL; rw [List.flatMap_append]; simp
end Go.Proofs.YtjclhlicginekaaGreatDoor
