/- Shares: the contracts in the exact laws' words. -/
import Derived.Test.YtjhgjfipfjackaaProg
import Derived.Test.YtjhgjfipfjackaaPost
import Derived.Test.YtjhgjfipfjackaaShareA
import Derived.Test.YtjhgjfipfjackaaShareC
import Derived.Test.YtjhgjfipfjackaaTapeX
namespace Go.Proofs.Ytjhgjfipfjackaa
open Go Go.RowKit
theorem Listed.post {w w' : World} {s b : Int} {zs : List Int} {e : Ending} (h : Listed w s b zs e w') : Post_I_Tape zs s b w e w' := by
  obtain ⟨A, m, c, he, hl, ho, hb⟩ := h
  exact ⟨A, m, c, he, hl, OwnI.of_own ho, hb⟩
theorem ex_impl_ShareAdd (p x n s a : Int) (w : World) : Calls Try.prog 15 #[.int .i64 p, .int .i64 x, .int .i64 n, .agg #[.int .i64 s, .int .i64 a]] w (Post_I_Tape (saI p x n s a) s (saaI p x n s a) w) :=
  (impl_ShareAdd p x n s a w).mono fun _ _ h => h.post
theorem ex_spec_ShareAdd (p x n s a : Int) (w : World) : Calls Try.prog 21 #[.int .i64 p, .int .i64 x, .int .i64 n, .agg #[.int .i64 s, .int .i64 a]] w (Post_I_Tape (saI p x n s a) s (saaI p x n s a) w) :=
  (spec_ShareAdd p x n s a w).mono fun _ _ h => h.post
theorem Post_int.same {r : Int} {w w' : World} {e : Ending} (h : e = .returned (.int .i64 r) ∧ w = w') : Post_int r w e w' := ⟨h.1, by rw [h.2]; exact Below.refl _ _⟩
theorem ex_impl_OpenAdd (p : Int) (A : Option Addr) (k c : Nat) (xs : List Int) (w : World) (hxs : Ints w A xs) (lxs : xs.length = k) (mxs : k ≤ 2000000) : Calls Try.prog 16 #[.int .i64 p, .slice A k c] w (Post_int (openI p xs) w) :=
  impl_OpenAdd p A k c xs _ rfl w hxs lxs (by omega)
theorem ex_spec_OpenAdd (p : Int) (A : Option Addr) (k c : Nat) (xs : List Int) (w : World) (hxs : Ints w A xs) (lxs : xs.length = k) (mxs : k ≤ 2000000) : Calls Try.prog 27 #[.int .i64 p, .slice A k c] w (Post_int (openI p xs) w) :=
  (spec_OpenAdd p A k c xs _ rfl w hxs lxs (by omega)).mono fun _ _ h => Post_int.same h
theorem ex_impl_CountSharings (p : Int) (x : Int) (n : Int) (A : Option Addr) (k c : Nat) (xs : List Int) (w : World) (hxs : Ints w A xs) (lxs : xs.length = k) (mxs : k ≤ 2000000) : Calls Try.prog 20 #[.int .i64 p, .int .i64 x, .int .i64 n, .slice A k c] w (Post_int (countI p x n xs) w) :=
  impl_CountSharings p x n _ A k c xs rfl w hxs lxs mxs
theorem ex_spec_CountSharings (p : Int) (x : Int) (n : Int) (A : Option Addr) (k c : Nat) (xs : List Int) (w : World) (hxs : Ints w A xs) (lxs : xs.length = k) (mxs : k ≤ 2000000) : Calls Try.prog 32 #[.int .i64 p, .int .i64 x, .int .i64 n, .slice A k c] w (Post_int (countI p x n xs) w) :=
  (spec_CountSharings p x n _ A k c xs rfl w hxs lxs mxs).mono fun _ _ h => Post_int.same h
theorem ex_impl_ScaleShares (p : Int) (A : Option Addr) (k c : Nat) (xs : List Int) (q : Int) (w : World) (hxs : Ints w A xs) (lxs : xs.length = k) (mxs : k ≤ 2000000) : Calls Try.prog 18 #[.int .i64 p, .slice A k c, .int .i64 q] w (Post_I (sclL p q xs) w) :=
  impl_ScaleShares p q A k c xs w hxs lxs mxs
theorem ex_spec_ScaleShares (p : Int) (A : Option Addr) (k c : Nat) (xs : List Int) (q : Int) (w : World) (hxs : Ints w A xs) (lxs : xs.length = k) (mxs : k ≤ 2000000) : Calls Try.prog 30 #[.int .i64 p, .slice A k c, .int .i64 q] w (Post_I (sclL p q xs) w) :=
  spec_ScaleShares p q A k c xs w hxs lxs mxs
theorem ex_impl_AddConstant (p : Int) (A : Option Addr) (k c : Nat) (xs : List Int) (q : Int) (w : World) (hxs : Ints w A xs) (lxs : xs.length = k) (mxs : k ≤ 2000000) : Calls Try.prog 19 #[.int .i64 p, .slice A k c, .int .i64 q] w (Post_I (addcL p q xs) w) :=
  impl_AddConstant p q A k c xs w hxs lxs mxs
theorem ex_spec_AddConstant (p : Int) (A : Option Addr) (k c : Nat) (xs : List Int) (q : Int) (w : World) (hxs : Ints w A xs) (lxs : xs.length = k) (mxs : k ≤ 2000000) : Calls Try.prog 31 #[.int .i64 p, .slice A k c, .int .i64 q] w (Post_I (addcL p q xs) w) :=
  spec_AddConstant p q A k c xs w hxs lxs mxs
theorem ex_impl_AddShares (p : Int) (A : Option Addr) (k c : Nat) (xs : List Int) (B : Option Addr) (m d : Nat) (ys : List Int) (w : World) (hxs : Ints w A xs) (lxs : xs.length = k) (mxs : k ≤ 2000000) (hys : Ints w B ys) (lys : ys.length = m) (mys : m ≤ 2000000) : Calls Try.prog 17 #[.int .i64 p, .slice A k c, .slice B m d] w (Post_I (addL p xs ys) w) :=
  impl_AddShares p A B k c m d xs ys w hxs hys lxs lys mxs mys
theorem ex_spec_AddShares (p : Int) (A : Option Addr) (k c : Nat) (xs : List Int) (B : Option Addr) (m d : Nat) (ys : List Int) (w : World) (hxs : Ints w A xs) (lxs : xs.length = k) (mxs : k ≤ 2000000) (hys : Ints w B ys) (lys : ys.length = m) (mys : m ≤ 2000000) : Calls Try.prog 29 #[.int .i64 p, .slice A k c, .slice B m d] w (Post_I (addL p xs ys) w) :=
  spec_AddShares p A B k c m d xs ys w hxs hys lxs lys mxs mys
end Go.Proofs.Ytjhgjfipfjackaa
