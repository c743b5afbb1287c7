/-
  WarmMore: its inner function: does a span lie in another one?
-/
import Derived.Test.YtmhpgjlegajpeaaM1
namespace Go.Proofs.Ytmhpgjlegajpeaa
open Go.RowKit

set_option maxHeartbeats 400000 in
theorem in_any (a b c d : Int) (w : World) : Calls Try.prog 43 #[.agg #[.int .i64 a, .int .i64 b], .agg #[.int .i64 c, .int .i64 d]] w (RetB (decide (c ≤ a ∧ b ≤ d)) w) := by
  have k0 : Keeps w ((w.alloc (.cells #[.int .i64 a, .int .i64 b] 23)).alloc (.cells #[.int .i64 c, .int .i64 d] 23)) := ((Keeps.refl _).alloc _).alloc _
  go_enter Try.func43, Try.ntmps43
  go_wp2
  all_goals first | (go_ret; exact RetB.mk (by simp; try omega) k0) | trace_state
end Go.Proofs.Ytmhpgjlegajpeaa
