/- Small functions: within, clamp, faster, the car's checks, ramps. -/
import Derived.Test.YtcoccfijikiamaaMem
namespace Go.Proofs.Ytcoccfijikiamaa
open Go.RowKit Go.Shelf

set_option maxHeartbeats 1000000 in
theorem within_i64 (a n b : Int) (w : World) : Calls Try.prog 29 #[iv n, iv a, iv b] w fun e w' => e = .returned (.bool (decide (a ≤ n ∧ n ≤ b))) ∧ w' = w := by
  go_enter Try.func29, Try.ntmps29
  go_wp2
  all_goals go_ret
  all_goals (refine ⟨?_, rfl⟩)
  all_goals (simp; try omega)
set_option maxHeartbeats 1000000 in
theorem within_int (a n b : Int) (w : World) : Calls Try.prog 30 #[iv n, iv a, iv b] w fun e w' => e = .returned (.bool (decide (a ≤ n ∧ n ≤ b))) ∧ w' = w := by
  go_enter Try.func30, Try.ntmps30
  go_wp2
  all_goals go_ret
  all_goals (refine ⟨?_, rfl⟩)
  all_goals (simp; try omega)
set_option maxHeartbeats 1000000 in
theorem clamp_int (x lo hi : Int) (w : World) : Calls Try.prog 31 #[iv x, iv lo, iv hi] w fun e w' => e = .returned (iv (clp x lo hi)) ∧ w' = w := by
  go_enter Try.func31, Try.ntmps31
  go_wp2
  all_goals go_ret
  all_goals (refine ⟨?_, rfl⟩)
  all_goals (unfold clp; simp; try omega)
set_option maxHeartbeats 1000000 in
theorem clamp_i64 (x lo hi : Int) (w : World) : Calls Try.prog 40 #[iv x, iv lo, iv hi] w fun e w' => e = .returned (iv (clp x lo hi)) ∧ w' = w := by
  go_enter Try.func40, Try.ntmps40
  go_wp2
  all_goals go_ret
  all_goals (refine ⟨?_, rfl⟩)
  all_goals (unfold clp; simp; try omega)
end Go.Proofs.Ytcoccfijikiamaa
