/- What the text of a program gives back, in plain lists of bytes. No condition. -/
import Derived.Test.YtjclhlicginekaaGreatDoorSrcO
import Derived.Test.YtjclhlicginekaaGreatDoorSrcK
import Derived.Test.YtjclhlicginekaaGreatDoorPgB
namespace Go.Proofs.YtjclhlicginekaaGreatDoor
open Go Go.RowKit
def wrongL : List UInt8 := [119, 114, 111, 110, 103]
theorem wrong_good : goodF wrongL := ⟨by decide, by
  intro c hc
  have h : ∀ c, c ∈ wrongL → (32 ≤ c.toNat ∧ c.toNat ≤ 126) ∧ c.toNat ≠ 32 := by decide
  exact h c hc⟩
theorem wrong_fields : fieldsL wrongL = [wrongL] := by
  have := fieldsL_spaced wrongL [] wrong_good (fun f h => by simp at h)
  simpa using this
theorem wrong_split : splitOK wrongL := by
  refine ⟨by decide, fun j hj => ?_, by rw [wrong_fields]; decide⟩
  rw [List.getD_eq_getElem?_getD, List.getElem?_eq_getElem hj, Option.getD_some]
  exact (wrong_good.2 _ (List.getElem_mem _)).1
theorem wrong_none : parseL wrongL = none := by
  refine parse_none_of ?_
  rw [(splitF_yes wrong_split).1, wrong_fields]
  decide
theorem ok_all {ss : List St} (hp : progI ss) : ∀ s, s ∈ ss → s.ok := by
  intro s hs
  obtain ⟨j, hj, rfl⟩ := List.getElem_of_mem hs
  have := runD_ok hp.2 j hj
  rwa [List.getD_eq_getElem?_getD, List.getElem?_eq_getElem hj] at this
theorem prog_size {ss : List St} (hp : progI ss) : (progL ss).length ≤ 880 := by
  have h := progL_len (runD_ok hp.2) ss.length (Nat.le_refl _)
  rw [List.take_of_length_le (Nat.le_refl _)] at h
  have := hp.1
  omega
theorem parseP_prog {ss : List St} (hp : progI ss) : parseP (progL ss) = (ss, 0) := by
  have hs := prog_size hp
  unfold parseP
  rw [if_neg (by omega)]
  have h := goP_prog ss (ok_all hp) [] 0 []
  rw [List.append_nil] at h
  have e : linesL [] = [[]] := rfl
  rw [e, goP, if_pos rfl, goP, List.nil_append, if_pos hp] at h
  exact h
theorem parseP_wrong {ss : List St} (hp : progI ss) : parseP (progL ss ++ wrongL) = ([], (ss.length : Int) + 1) := by
  have hs := prog_size hp
  unfold parseP
  rw [if_neg (by rw [List.length_append]; have : wrongL.length = 5 := rfl; omega)]
  have h := goP_prog ss (ok_all hp) wrongL 0 []
  have e : linesL wrongL = [wrongL] := by
    unfold linesL
    rw [linesA_last _ (by decide)]; rfl
  rw [e, goP, if_neg (by decide), wrong_none] at h
  rw [Nat.zero_add] at h
  exact h
end Go.Proofs.YtjclhlicginekaaGreatDoor
