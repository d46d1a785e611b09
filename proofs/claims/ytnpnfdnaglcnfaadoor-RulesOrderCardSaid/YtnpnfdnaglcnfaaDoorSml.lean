/- parts, within, checkWidth, and the node's check. -/
import Derived.Test.YtnpnfdnaglcnfaaDoorAid
namespace Go.Proofs.YtnpnfdnaglcnfaaDoor
open Go.RowKit Go.Shelf

abbrev iv (x : Int) : Value := .int .i64 x

set_option maxHeartbeats 1000000 in
theorem parts_any (op : Int) (w : World) : Calls Tryd.prog 98 #[iv op] w fun e w' => e = .returned (iv (prt op)) ∧ w' = w := by
  go_enter Tryd.func98, Tryd.ntmps98
  go_wp2
  all_goals go_ret
  all_goals (refine ⟨?_, rfl⟩)
  all_goals simp_all [prt]

set_option maxHeartbeats 1000000 in
theorem within_int (a n b : Int) (w : World) : Calls Tryd.prog 48 #[iv a, iv n, iv b] w fun e w' => e = .returned (.bool (decide (a ≤ n ∧ n ≤ b))) ∧ w' = w := by
  go_enter Tryd.func48, Tryd.ntmps48
  go_wp2
  all_goals go_ret
  all_goals (refine ⟨?_, rfl⟩)
  all_goals (simp; try omega)
set_option maxHeartbeats 1000000 in
theorem within_i64 (a n b : Int) (w : World) : Calls Tryd.prog 76 #[iv a, iv n, iv b] w fun e w' => e = .returned (.bool (decide (a ≤ n ∧ n ≤ b))) ∧ w' = w := by
  go_enter Tryd.func76, Tryd.ntmps76
  go_wp2
  all_goals go_ret
  all_goals (refine ⟨?_, rfl⟩)
  all_goals (simp; try omega)
set_option maxHeartbeats 1000000 in
theorem width_any (x : Int) (w : World) : Calls Tryd.prog 44 #[iv x] w fun e w' => e = .returned (iv (if 1 ≤ x ∧ x ≤ 12 then 0 else 2)) ∧ w' = w := by
  go_enter Tryd.func44, Tryd.ntmps44
  go_wp2_with (go_at_call 48; (with_reducible refine (within_int _ _ _ _).mono ?_); rintro e w1 ⟨rfl, rfl⟩)
  all_goals go_ret
  all_goals (refine ⟨?_, rfl⟩)
  all_goals simp_all
end Go.Proofs.YtnpnfdnaglcnfaaDoor
