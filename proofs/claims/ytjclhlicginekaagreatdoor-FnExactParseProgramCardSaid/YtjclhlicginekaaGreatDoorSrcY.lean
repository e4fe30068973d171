/- The law FnExactParseStmt: the walk. -/
import Derived.Test.YtjclhlicginekaaGreatDoorProg
import Derived.Test.YtjclhlicginekaaGreatDoorSrcQ
import Derived.Test.YtjclhlicginekaaGreatDoorSrcP
namespace Go.Proofs.YtjclhlicginekaaGreatDoor
open Go Go.RowKit
theorem spec_ParseStmt (s : ByteArray) (hm : s.size ≤ 1048576) (w : World) :
    Calls Tryz.prog 28 #[.string s] w fun e w' => e = .returned (optV (parseL s.data.toList)) ∧ Below w.heap.size w w' := by
  have hp := cand_line s.data.toList
  cases hb : splitB s.data.toList with
  | false =>
    have hF : splitF s.data.toList = [] := by
      by_cases h : splitOK s.data.toList
      · rw [(splitF_yes h).2] at hb; cases hb
      · exact (splitF_no h).1
    have e : parseL s.data.toList = none := by rw [← hp, hF]; rfl
    rw [e]
    exact spec_Parse_bad s hm w hb
  | true =>
    by_cases hl : (splitF s.data.toList).length = 0 ∨ 5 < (splitF s.data.toList).length
    · have e : parseL s.data.toList = none := by
        rw [← hp]
        unfold candI
        rw [if_pos hl]; rfl
      rw [e]
      exact spec_Parse_len s hm w hb hl
    · have hcand : candI (splitF s.data.toList) = (opOf ((splitF s.data.toList).getD 0 [])).map fun op => candO op (splitF s.data.toList) := by
        unfold candI
        rw [if_neg hl]
      rw [hcand] at hp
      refine spec_Parse_go s hm w (splitF s.data.toList) rfl hb (by omega) (by omega) (split_field s.data.toList) (parseL s.data.toList) (fun h => ?_) (fun u h => ?_)
      · rw [← hp, h]; rfl
      · rw [← hp, h]; rfl
end Go.Proofs.YtjclhlicginekaaGreatDoor
