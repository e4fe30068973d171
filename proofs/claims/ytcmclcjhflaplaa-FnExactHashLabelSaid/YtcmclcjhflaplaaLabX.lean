/- Labels: the contracts in the exact laws' words. -/
import Derived.Test.YtcmclcjhflaplaaProg
import Derived.Test.YtcmclcjhflaplaaB1
import Derived.Test.YtcmclcjhflaplaaLab
import Derived.Test.YtcmclcjhflaplaaTapeX
namespace Go.Proofs.Ytcmclcjhflaplaa
open Go Go.RowKit
theorem Post_int.quiet {r : Int} {w w' : World} {e : Ending} (h : e = .returned (.int .i64 r) ∧ w = w') : Post_int r w e w' := ⟨h.1, by rw [h.2]; exact Below.refl _ _⟩
theorem Post_bool.quiet {r : Bool} {w w' : World} {e : Ending} (h : e = .returned (.bool r) ∧ w = w') : Post_bool r w e w' := ⟨h.1, by rw [h.2]; exact Below.refl _ _⟩
def Post_int_Tape (x s a : Int) (w : World) (e : Ending) (w' : World) : Prop := e = .returned (.tuple #[.int .i64 x, .agg #[.int .i64 s, .int .i64 a]]) ∧ Below w.heap.size w w'
theorem ex_impl_IsLabel (x : Int) (w : World) : Calls Try.prog 14 #[.int .i64 x] w (Post_bool (decide (isLbl x)) w) := (impl_IsLabel x w).mono fun _ _ h => Post_bool.quiet h
theorem ex_spec_IsLabel (x : Int) (w : World) : Calls Try.prog 17 #[.int .i64 x] w (Post_bool (decide (isLbl x)) w) := (spec_IsLabel x w).mono fun _ _ h => Post_bool.quiet h
theorem ex_impl_HashLabel (x n : Int) (w : World) : Calls Try.prog 16 #[.int .i64 x, .int .i64 n] w (Post_int (hshI x n) w) := (impl_HashLabel x n w).mono fun _ _ h => Post_int.quiet h
theorem ex_spec_HashLabel (x n : Int) (w : World) : Calls Try.prog 22 #[.int .i64 x, .int .i64 n] w (Post_int (hshI x n) w) := (spec_HashLabel x n w).mono fun _ _ h => Post_int.quiet h
theorem ex_impl_LabelFor (z d v : Int) (w : World) : Calls Try.prog 13 #[.int .i64 z, .int .i64 d, .int .i64 v] w (Post_int (lblI z d v) w) := impl_LabelFor z d v w
theorem ex_spec_LabelFor (z d v : Int) (w : World) : Calls Try.prog 21 #[.int .i64 z, .int .i64 d, .int .i64 v] w (Post_int (lblI z d v) w) := (spec_LabelFor z d v w).mono fun _ _ h => Post_int.quiet h
theorem ex_impl_ValueOf (z d l : Int) (w : World) : Calls Try.prog 15 #[.int .i64 z, .int .i64 d, .int .i64 l] w (Post_int (lvI z d l) w) := impl_ValueOf z d l w
theorem ex_spec_ValueOf (z d l : Int) (w : World) : Calls Try.prog 23 #[.int .i64 z, .int .i64 d, .int .i64 l] w (Post_int (lvI z d l) w) := (spec_ValueOf z d l w).mono fun _ _ h => Post_int.quiet h
theorem ex_impl_DeltaOf (s a : Int) (w : World) : Calls Try.prog 12 #[.agg #[.int .i64 s, .int .i64 a]] w (Post_int_Tape (dltI s a) s (dltA s a) w) := impl_DeltaOf s a w
theorem ex_spec_DeltaOf (s a : Int) (w : World) : Calls Try.prog 18 #[.agg #[.int .i64 s, .int .i64 a]] w (Post_int_Tape (dltI s a) s (dltA s a) w) := spec_DeltaOf s a w
end Go.Proofs.Ytcmclcjhflaplaa
