/- strings.Split at the byte 10. -/
import Derived.Test.YtjclhlicginekaaGreatDoorProg
import Derived.Test.YtjclhlicginekaaGreatDoorShelf
import Derived.Test.YtjclhlicginekaaGreatDoorSrcK
import Derived.Shelf.Strings.Split
import Derived.Lib.IndexBytes
namespace Go.Proofs.YtjclhlicginekaaGreatDoor
open Go Go.RowKit
def nl : ByteArray := ⟨#[10]⟩
theorem splitB_lines (s : ByteArray) : (Lib.splitB nl 0 (Lib.countB s nl) s).map (·.data.toList) = linesL s.data.toList := by
  rw [Lib.splitB_data]
  exact splitK_lines s.data.toList
theorem genSplit_nl (s : ByteArray) (w : World) (hs : s.size ≤ 1048576) :
    Calls Tryz.prog 40 #[.string s, .string nl, .int .i64 0, .int .i64 (-1)] w fun e w' =>
      e = .returned (.slice (some ⟨w.heap.size, 0, none⟩) (Lib.countB s nl + 1) (Lib.countB s nl + 1)) ∧ w' = w.alloc (.cells ((Lib.splitB nl 0 (Lib.countB s nl) s).map Value.string).toArray 9) := by
  have h1 : 1 ≤ nl.size := Nat.le_refl _
  have hle := Lib.countB_le nl h1 s.size s (Nat.le_refl _)
  have hlen := Lib.splitB_all nl h1 0 _ s rfl
  have c := Any.strings_genSplit_core Tryz.lays221 (by kernel_rfl) s nl 0 (-1) (Lib.countB s nl + 1) w (by omega) h1 (Nat.zero_le _)
    (fun x c _ => by
      refine (Any.strings_Index_one Tryz.lays143 x 10 _).mono fun e w' ⟨he, hw⟩ => ⟨?_, hw⟩
      rw [he, ← Lib.index_one]; rfl)
    (by
      refine (Any.strings_Count_one Tryz.lays138 s 10 w).mono fun e w' ⟨he, hw⟩ => ⟨?_, hw⟩
      rw [he]
      show _ = Ending.returned (Value.int .i64 ((Lib.count s.data.toList [10] : Nat) : Int))
      rw [Lib.count_one]; rfl)
    (by decide) (by decide) (by rw [if_pos (by decide)]; omega)
  rw [Nat.add_sub_cancel, hlen] at c
  have e2 : Lib.cellsOf (Lib.splitB nl 0 (Lib.countB s nl) s) (Lib.countB s nl + 1) = ((Lib.splitB nl 0 (Lib.countB s nl) s).map Value.string).toArray := by rw [← hlen]; exact Lib.cellsOf_full _
  rw [e2] at c
  exact c
/-- The lines of a text in memory. -/
def LinesAt (w : World) (L : List (List UInt8)) (e : Ending) (w' : World) : Prop :=
  e = .returned (.slice (some ⟨w.heap.size, 0, none⟩) L.length L.length) ∧ w'.heap[w.heap.size]? = some (.cells (L.map fun l => Value.string ⟨l.toArray⟩).toArray 9 (0, 0)) ∧ Below w.heap.size w w'
theorem split_nl (s : ByteArray) (w : World) (hs : s.size ≤ 1048576) :
    Calls Tryz.prog 25 #[.string s, .string nl] w (LinesAt w (linesL s.data.toList)) := by
  have c := genSplit_nl s w hs
  have hm := splitB_lines s
  have hl : Lib.countB s nl + 1 = (linesL s.data.toList).length := by
    rw [← hm, List.length_map, Lib.splitB_all nl (Nat.le_refl _) 0 _ s rfl]
  have hc : (Lib.splitB nl 0 (Lib.countB s nl) s).map Value.string = (linesL s.data.toList).map fun l => Value.string ⟨l.toArray⟩ := by
    rw [← hm, List.map_map]
    apply List.map_congr_left
    intro b _
    show Value.string b = Value.string ⟨b.data.toList.toArray⟩
    congr 1
  rw [hc, hl] at c
  generalize linesL s.data.toList = L at *
  unfold nl at c ⊢
  clear hm hl hc
  go_enter Tryz.func25, Tryz.ntmps25
  go_wp2_with fail
  refine c.mono ?_
  rintro e w1 ⟨rfl, rfl⟩
  go_wp2_with fail
  go_ret
  exact ⟨rfl, heap_alloc_new w _, (Below.refl _ _).alloc (Nat.le_refl _) _⟩
end Go.Proofs.YtjclhlicginekaaGreatDoor
