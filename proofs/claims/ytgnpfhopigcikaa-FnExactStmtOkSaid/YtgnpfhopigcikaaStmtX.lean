/- Contracts in the exact laws' form. No condition. -/
import Derived.Test.YtgnpfhopigcikaaProg
import Derived.Test.YtgnpfhopigcikaaStmtJ
import Derived.Test.YtgnpfhopigcikaaStmtK
import Derived.Test.YtgnpfhopigcikaaStmtA
import Derived.Test.YtgnpfhopigcikaaAgg
namespace Go.Proofs.Ytgnpfhopigcikaa
open Go Go.RowKit
theorem ex_spec_StmtOk (op d a b c n : Int) (w : World) : Calls Try.prog 17 #[.agg #[.int .i64 op, .int .i64 d, .int .i64 a, .int .i64 b, .int .i64 c, .int .i64 n]] w (Post_bool (decide (okI op d a b c n)) w) := spec_StmtOk op d a b c n w
theorem ex_impl_StmtOk (op d a b c n : Int) (w : World) : Calls Try.prog 14 #[.agg #[.int .i64 op, .int .i64 d, .int .i64 a, .int .i64 b, .int .i64 c, .int .i64 n]] w (Post_bool (decide (okI op d a b c n)) w) := impl_StmtOk op d a b c n w
theorem ex_spec_ReadsOf (op d a b c n : Int) (w : World) : Calls Try.prog 23 #[.agg #[.int .i64 op, .int .i64 d, .int .i64 a, .int .i64 b, .int .i64 c, .int .i64 n]] w (Post_I (readsOf op d a b c n) w) := spec_ReadsOf op d a b c n w
theorem ex_impl_ReadsOf (op d a b c n : Int) (w : World) : Calls Try.prog 12 #[.agg #[.int .i64 op, .int .i64 d, .int .i64 a, .int .i64 b, .int .i64 c, .int .i64 n]] w (Post_I (readsOf op d a b c n) w) := impl_ReadsOf op d a b c n w
theorem ex_spec_WritesOf (op d a b c n : Int) (w : World) : Calls Try.prog 27 #[.agg #[.int .i64 op, .int .i64 d, .int .i64 a, .int .i64 b, .int .i64 c, .int .i64 n]] w (Post_int (writesOf op d a b c n) w) := spec_WritesOf op d a b c n w
theorem ex_impl_WritesOf (op d a b c n : Int) (w : World) : Calls Try.prog 13 #[.agg #[.int .i64 op, .int .i64 d, .int .i64 a, .int .i64 b, .int .i64 c, .int .i64 n]] w (Post_int (writesOf op d a b c n) w) := impl_WritesOf op d a b c n w
theorem readsOf_small (op d a b c n : Int) : (readsOf op d a b c n).length ≤ 2000000 := by
  unfold readsOf readsI
  repeat' split
  all_goals simp
end Go.Proofs.Ytgnpfhopigcikaa
