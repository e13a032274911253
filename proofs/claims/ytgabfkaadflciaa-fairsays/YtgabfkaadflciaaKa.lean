/- same: an error and its number. -/
import Derived.Test.YtgabfkaadflciaaGc
import Derived.Deep.RegionHeld3
namespace Go.Proofs.Ytgabfkaadflciaa
open Go.RowKit
open Fr (Un M)

theorem assertE (n : Int) (w : World) : (Instr.typeAssert (.iface 110 (.int .i64 n)) 39 110 true).run Try.prog w = .ok (.tuple #[.int .i64 n, .bool true]) w := by kernel_rfl
set_option maxHeartbeats 400000 in
theorem same_nil (w : World) : Calls Try.prog 15 #[.nilIface, .int .i64 0] w fun e w' => e = .returned (.bool true) ∧ w' = w := by
  go_enter Try.func15, Try.ntmps15
  go_wp2
  go_ret
  exact ⟨rfl, rfl⟩
set_option maxHeartbeats 400000 in
theorem same_err (n : Int) (h : 0 < n) (w : World) : Calls Try.prog 15 #[.iface 110 (.int .i64 n), .int .i64 n] w fun e w' => e = .returned (.bool true) ∧ w' = w := by
  have ha := assertE n
  go_enter Try.func15, Try.ntmps15
  go_wp2
  go_ret
  exact ⟨rfl, rfl⟩
theorem same_any (k : Int) (h : 0 ≤ k) (w : World) : Calls Try.prog 15 #[errV k, .int .i64 k] w fun e w' => e = .returned (.bool true) ∧ w' = w := by
  by_cases h0 : k = 0
  · subst h0; exact same_nil w
  · rw [errV_ne h0]; exact same_err k (by omega) w
end Go.Proofs.Ytgabfkaadflciaa
