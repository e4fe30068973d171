/- strings.Builder: writing a text. -/
import Derived.Test.YtjclhlicginekaaGreatDoorProg
import Derived.Test.YtjclhlicginekaaGreatDoorKit
import Derived.Test.YtjclhlicginekaaGreatDoorBlk
import Derived.Lib.Builder
import Derived.Lib.AppendStr
import Derived.Laws.Externs
namespace Go.Proofs.YtjclhlicginekaaGreatDoor
open Go Go.RowKit
theorem sizeBld : (Tryz.prog.info? 49).map (·.size) = some 2 := by kernel_rfl
theorem liesBld : liesAt Tryz.prog (Program.depth Tryz.prog) 49 (2 / Program.cellsOf Tryz.prog 49) 0 49 1 = true := by kernel_rfl
theorem infoU8b : (Tryz.prog.info? 5).map (fun i => (i.zero, i.size, i.bytes)) = some (some (.int .u8 0), 1, 1) := by kernel_rfl
set_option maxRecDepth 100000 in
set_option maxHeartbeats 1000000 in
theorem bld_used (b : Nat) (w : World) (h0 : w.cell? ⟨b, 0, none⟩ = some (.pointer (some ⟨b, 0, none⟩))) :
    Calls Tryz.prog 35 #[.pointer (some ⟨b, 0, none⟩)] w fun e w' => e = .returned (.tuple #[]) ∧ w' = w := by
  obtain ⟨j, hj, _⟩ := Option.map_eq_some_iff.1 sizeBld
  go_enter Tryz.func35, Tryz.ntmps35
  go_wp2_with fail
  rw [Lib.run_neq_ptr_same w _ Tryz.underlying47 hj]
  go_wp2_with fail
  go_end0
  exact ⟨rfl, rfl⟩
set_option maxRecDepth 100000 in
set_option maxHeartbeats 1000000 in
theorem bld_fresh (b : Nat) (w : World) (h0 : w.cell? ⟨b, 0, none⟩ = some (.pointer none)) (hsh : w.shape? b = some (49, 2)) (hfz : w.frozen? ⟨b, 0, none⟩ = false) :
    Calls Tryz.prog 35 #[.pointer (some ⟨b, 0, none⟩)] w fun e w' => e = .returned (.tuple #[]) ∧ w' = w.setCell ⟨b, 0, none⟩ (.pointer (some ⟨b, 0, none⟩)) := by
  obtain ⟨j, hj, hjs⟩ := Option.map_eq_some_iff.1 sizeBld
  go_enter Tryz.func35, Tryz.ntmps35
  go_wp2_with fail
  rw [Lib.run_to_unsafe w ⟨b, 0, none⟩ Tryz.underlying47 Tryz.underlying94 hj (by rw [hjs]; decide) hsh (Nat.zero_lt_succ 1)]
  simp only [Result.andThen]
  rw [Oper.upon_value]
  go_wp2_with fail
  rw [run_callFunc_extern Tryz.func54 (by kernel_rfl) (by kernel_rfl) (by kernel_rfl) (e := Extern.AbiNoEscape.same) (by kernel_rfl)]
  rw [Lib.run_noEscape]
  simp only [Result.andThen]
  rw [Oper.upon_value]
  go_wp2_with fail
  rw [Lib.run_from_unsafe w ⟨b, 0, none⟩ Tryz.underlying94 Tryz.underlying47 hj hsh liesBld]
  simp only [Result.andThen]
  rw [Oper.upon_value]
  go_wp2_with fail
  go_end0
  exact ⟨rfl, rfl⟩
theorem bld_check (B b : Nat) (bs : List Value) (w : World) (h : Lib.IsBuilder 49 5 B b bs w) :
    Calls Tryz.prog 35 #[.pointer (some ⟨b, 0, none⟩)] w fun e w' => e = .returned (.tuple #[]) ∧ Lib.BuilderAt 49 5 B b (.pointer (some ⟨b, 0, none⟩)) bs w' ∧ w.grownBy w' (some b) := by
  rcases h with h | h
  · refine (bld_fresh b w h.cell0 h.shape h.frozen0).mono ?_
    rintro e w' ⟨rfl, rfl⟩
    exact ⟨rfl, h.used _, grownBy_set w b 0 _⟩
  · refine (bld_used b w h.cell0).mono ?_
    rintro e w' ⟨rfl, rfl⟩
    exact ⟨rfl, h, World.grownBy.refl _ _⟩
/-- The builder holds these bytes. -/
def Bld (B b : Nat) (l : List UInt8) (w : World) : Prop := Lib.IsBuilder 49 5 B b (byteVals l) w
theorem strCells_vals (s : ByteArray) : Lib.strCells s = byteVals s.data.toList := rfl
set_option maxRecDepth 100000 in
set_option maxHeartbeats 1000000 in
theorem bld_write (B b : Nat) (l : List UInt8) (s : ByteArray) (w : World) (h : Bld B b l w) (hlen : l.length + s.size ≤ 1000000) (hBw : B ≤ w.heap.size) :
    Calls Tryz.prog 22 #[.pointer (some ⟨b, 0, none⟩), .string s] w fun e w' => e = .returned (.tuple #[.int .i64 s.size, .nilIface]) ∧ Bld B b (l ++ s.data.toList) w' ∧ Below B w w' := by
  obtain ⟨i0, hi, hz0, hz1, hz2⟩ := info_parts infoU8b
  have hB : B ≤ b := by rcases h with h | h <;> exact h.1
  go_enter Tryz.func22, Tryz.ntmps22
  go_wp2_with fail
  refine (bld_check B b _ _ h).mono ?_
  rintro e w1 ⟨rfl, ⟨-, v, hbk, hown, hne⟩, hg1⟩
  have hb1 : Below B w w1 := (Below.refl _ _).grown hg1 hBw (fun k hk => by cases hk; exact hB)
  obtain ⟨c0, -⟩ := blk (i := 0) hbk rfl
  obtain ⟨c1, -⟩ := blk (i := 1) hbk rfl
  have hs1 := hb1.size
  go_wp2_with (first | (at_builtin; refine Lib.wpList_append_own_string _ rfl _ _ 22 9 rfl B 5 i0 Tryz.underlying22 Tryz.underlying9 hi hz0 hz1 hz2 _ _ _ rfl hown s rfl (by rw [byteVals_length]; unfold maxLen; omega) (by rw [byteVals_length]; omega) (by omega) ?_))
  intro v' w2 hown' hgrow _
  have hlt := heap_lt hbk
  have hb2 := (hgrow.block b hlt (fun e => hne e.symm)).trans hbk
  obtain ⟨d0, -⟩ := blk (i := 0) hb2 rfl
  obtain ⟨d1, f1⟩ := blk (i := 1) hb2 rfl
  have hlow := hb1.grown hgrow (by omega) (fun k hk => (hown.lt k hk).1)
  obtain ⟨ao, n', cap, rfl, -⟩ := ownsRow_slice hown'
  have hput := Lib.BuilderAt.put (T := 49) (e := 5) hB hb2 (bs' := byteVals (l ++ s.data.toList)) (by rw [byteVals_append, ← strCells_vals]; simpa [Lib.strCells_length, byteVals_length] using hown') (by decide)
  clear hown' hgrow hown hbk c0 c1
  go_wp2_with fail
  go_ret2
  exact ⟨rfl, .inr hput, hlow.setCell (p := ⟨b, 1, none⟩) hB _⟩
end Go.Proofs.YtjclhlicginekaaGreatDoor
