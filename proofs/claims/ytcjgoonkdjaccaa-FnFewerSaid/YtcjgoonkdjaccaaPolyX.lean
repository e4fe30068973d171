/- Polynomial shares: the contracts of opening and of consistency in the exact laws' words. -/
import Derived.Test.YtcjgoonkdjaccaaProg
import Derived.Test.YtcjgoonkdjaccaaPost
import Derived.Test.YtcjgoonkdjaccaaPolyL
namespace Go.Proofs.Ytcjgoonkdjaccaa
open Go Go.RowKit
theorem wf_le {a : Int} (h : (Lit.int .i64 a).wf = true) : a ≤ 9223372036854775807 := by
  have : -9223372036854775808 ≤ a ∧ a ≤ 9223372036854775807 := by simpa [Lit.wf, IntKind.min, IntKind.max, IntKind.signed, IntKind.bits] using h
  exact this.2
theorem ex_impl_OpenPoly (p : Int) (A : Option Addr) (k _c : Nat) (xs : List Int) (B : Option Addr) (m _d : Nat) (ys : List Int) (w : World) (hxs : Ints w A xs) (lxs : xs.length = k) (mxs : k ≤ 2000000) (hys : Ints w B ys) (lys : ys.length = m) (mys : m ≤ 2000000) : Calls Try.prog 16 #[.int .i64 p, .slice A k k, .slice B m m] w (Post_int (openP p xs ys) w) :=
  impl_OpenPoly p A B k m k m xs ys _ rfl w hxs hys lxs lys mxs mys (Nat.le_refl _)
theorem ex_spec_OpenPoly (p : Int) (A : Option Addr) (k _c : Nat) (xs : List Int) (B : Option Addr) (m _d : Nat) (ys : List Int) (w : World) (hxs : Ints w A xs) (lxs : xs.length = k) (mxs : k ≤ 2000000) (hys : Ints w B ys) (lys : ys.length = m) (mys : m ≤ 2000000) : Calls Try.prog 29 #[.int .i64 p, .slice A k k, .slice B m m] w (Post_int (openP p xs ys) w) :=
  spec_OpenPoly p A B k m k m xs ys w hxs hys lxs lys mxs mys
theorem ex_impl_PolyConsistent (p : Int) (A : Option Addr) (k _c : Nat) (xs : List Int) (q : Int) (hq : q ≤ 9223372036854775807) (w : World) (hxs : Ints w A xs) (lxs : xs.length = k) (mxs : k ≤ 2000000) : Calls Try.prog 17 #[.int .i64 p, .slice A k k, .int .i64 q] w (Post_bool (decide (consC p xs q)) w) :=
  impl_PolyConsistent p A k k xs q _ rfl hq w hxs lxs mxs (Nat.le_refl _)
theorem ex_spec_PolyConsistent (p : Int) (A : Option Addr) (k _c : Nat) (xs : List Int) (q : Int) (hq : q ≤ 9223372036854775807) (w : World) (hxs : Ints w A xs) (lxs : xs.length = k) (mxs : k ≤ 2000000) : Calls Try.prog 30 #[.int .i64 p, .slice A k k, .int .i64 q] w (Post_bool (decide (consC p xs q)) w) :=
  spec_PolyConsistent p A k k xs q _ rfl hq w hxs lxs mxs (Nat.le_refl _)
end Go.Proofs.Ytcjgoonkdjaccaa
