/- The program's check of a node. -/
import Derived.Test.YtnpnfdnaglcnfaaDoorSml
import Derived.BigRegion
namespace Go.Proofs.YtnpnfdnaglcnfaaDoor
open Go.RowKit Go.Shelf

abbrev ndV (n : Nd) : Value := .agg #[iv n.op, iv n.l, iv n.r, iv n.k, iv n.lo, iv n.hi]

set_option maxRecDepth 100000 in
set_option maxHeartbeats 4000000 in
theorem node_any (n : Nd) (w : Int) (h1 : 1 ≤ w) (h2 : w ≤ 12) (W : World) : Calls Tryd.prog 69 #[ndV n, iv w] W fun e w' => e = .returned (iv (ndE w n)) ∧ Below W.heap.size W w' := by
  go_enter Tryd.func69, Tryd.ntmps69
  go_wp2_with (first
    | (go_at_call 48; (with_reducible refine (within_int _ _ _ _).mono ?_); rintro e w1 ⟨rfl, rfl⟩)
    | (go_at_call 76; (with_reducible refine (within_i64 _ _ _ _).mono ?_); rintro e w1 ⟨rfl, rfl⟩))
  all_goals try go_region
  all_goals try go_wp2_with (first
    | (go_at_call 48; (with_reducible refine (within_int _ _ _ _).mono ?_); rintro e w1 ⟨rfl, rfl⟩)
    | (go_at_call 76; (with_reducible refine (within_i64 _ _ _ _).mono ?_); rintro e w1 ⟨rfl, rfl⟩))
  all_goals go_ret
  all_goals (refine ⟨?_, by repeat (first | exact Below.refl _ _ | refine Below.drew ?_ | refine Below.setCell ?_ (by first | omega | (simp; omega) | simp) _ | refine Below.alloc ?_ (by first | omega | (simp; omega) | simp) _)⟩)
  all_goals show Ending.returned (iv _) = Ending.returned (iv _)
  all_goals congr 2
  all_goals simp only [beq_iff_eq, beq_eq_false_iff_ne, decide_eq_true_eq, decide_eq_false_iff_not, Bool.and_eq_true, Bool.and_eq_false_iff, Bool.not_eq_eq_eq_not, Bool.not_true, Bool.not_false] at *
  all_goals unfold ndE
  all_goals (repeat' split)
  all_goals (first | rfl | omega)
end Go.Proofs.YtnpnfdnaglcnfaaDoor
